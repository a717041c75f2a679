/-
  Contracts of Go's library, laid at this seat's numbers (by the kit's own laying in plain words; cut to those that are used).
-/
import Derived.Shelf.Sort.Plain
import Derived.Shelf.Slices.In.SortNone
import Derived.Shelf.Slices.CompactS
import Derived.Test.YtdifmgeicnndfaaProg
namespace Go.Proofs
open Go.Shelf
def Try.lays190_ren : Go.Shelf.Ren := ⟨fun | 190 => 160 | 125 => 137 | 258 => 181 | 128 => 157 | 129 => 158 | 302 => 184 | 303 => 185 | 304 => 186 | 305 => 187 | 306 => 188 | 307 => 189 | 308 => 190 | 309 => 191 | 310 => 192 | 333 => 193 | 329 => 176 | 330 => 177 | 334 => 194 | 335 => 195 | 336 => 129 | 344 => 196 | n => n, fun | 31 => 23 | 9 => 9 | 3 => 3 | 46 => 163 | 0 => 0 | 51 => 187 | 53 => 190 | 4 => 4 | 183 => 210 | 182 => 209 | 131 => 206 | 5 => 5 | 218 => 231 | 222 => 235 | 228 => 239 | 229 => 240 | n => n, fun | n => n⟩
theorem Try.lays190 : Go.Proofs.Lays.n190 Try.prog Try.lays190_ren := {
  mixed := by kernel_rfl
  f125 := Try.func137.trans (congrArg some (by kernel_rfl))
  f128 := Try.func157.trans (congrArg some (by kernel_rfl))
  f129 := Try.func158.trans (congrArg some (by kernel_rfl))
  f190 := Try.func160.trans (congrArg some (by kernel_rfl))
  f258 := Try.func181.trans (congrArg some (by kernel_rfl))
  f302 := Try.func184.trans (congrArg some (by kernel_rfl))
  f303 := Try.func185.trans (congrArg some (by kernel_rfl))
  f304 := Try.func186.trans (congrArg some (by kernel_rfl))
  f305 := Try.func187.trans (congrArg some (by kernel_rfl))
  f306 := Try.func188.trans (congrArg some (by kernel_rfl))
  f307 := Try.func189.trans (congrArg some (by kernel_rfl))
  f308 := Try.func190.trans (congrArg some (by kernel_rfl))
  f309 := Try.func191.trans (congrArg some (by kernel_rfl))
  f310 := Try.func192.trans (congrArg some (by kernel_rfl))
  f329 := Try.func176.trans (congrArg some (by kernel_rfl))
  f330 := Try.func177.trans (congrArg some (by kernel_rfl))
  f333 := Try.func193.trans (congrArg some (by kernel_rfl))
  f334 := Try.func194.trans (congrArg some (by kernel_rfl))
  f335 := Try.func195.trans (congrArg some (by kernel_rfl))
  f336 := Try.func129.trans (congrArg some (by kernel_rfl))
  f344 := Try.func196.trans (congrArg some (by kernel_rfl))
  t0 := Try.underlying0
  a0 := Try.isAgg0
  z0 := Try.sizeOf0
  v0 := Try.zeroValue0
  t3 := Try.underlying3
  a3 := Try.isAgg3
  z3 := Try.sizeOf3
  v3 := Try.zeroValue3
  t4 := Try.underlying4
  a4 := Try.isAgg4
  z4 := Try.sizeOf4
  v4 := Try.zeroValue4
  t5 := Try.underlying5
  a5 := Try.isAgg5
  z5 := Try.sizeOf5
  v5 := Try.zeroValue5
  t9 := Try.underlying9
  a9 := Try.isAgg9
  z9 := Try.sizeOf9
  v9 := Try.zeroValue9
  t31 := Try.underlying23
  a31 := Try.isAgg23
  z31 := Try.sizeOf23
  v31 := Try.zeroValue23
  t46 := Try.underlying163
  a46 := Try.isAgg163
  z46 := Try.sizeOf163
  v46 := Try.zeroValue163
  t51 := Try.underlying187
  a51 := Try.isAgg187
  z51 := Try.sizeOf187
  v51 := Try.zeroValue187
  t53 := Try.underlying190
  a53 := Try.isAgg190
  z53 := Try.sizeOf190
  v53 := Try.zeroValue190
  t131 := Try.underlying206
  a131 := Try.isAgg206
  z131 := Try.sizeOf206
  v131 := Try.zeroValue206
  t182 := Try.underlying209
  a182 := Try.isAgg209
  z182 := Try.sizeOf209
  v182 := Try.zeroValue209
  t183 := Try.underlying210
  a183 := Try.isAgg210
  z183 := Try.sizeOf210
  v183 := Try.zeroValue210
  t218 := Try.underlying231
  a218 := Try.isAgg231
  z218 := Try.sizeOf231
  v218 := Try.zeroValue231
  t222 := Try.underlying235
  a222 := Try.isAgg235
  z222 := Try.sizeOf235
  v222 := Try.zeroValue235
  t228 := Try.underlying239
  a228 := Try.isAgg239
  z228 := Try.sizeOf239
  v228 := Try.zeroValue239
  t229 := Try.underlying240
  a229 := Try.isAgg240
  z229 := Try.sizeOf240
  v229 := Try.zeroValue240 }
open Go.Sort Go.RowKit in
theorem Try.slices_Sort_string (blk off cap : Nat) (ss : List (List UInt8)) (w : World) (hH : Holds encStr w blk off ss.toArray) (hblk : blk < w.heap.size) (hsz : ss.length < 4611686018427387904) :
    Calls Try.prog 160 #[.slice (some ⟨blk, off, none⟩) ss.length cap] w fun e w' =>
      e = .returned (.tuple #[]) ∧ ∃ n os, w' = grow (putRow encStr (Sort.ahead w n) blk off (ss.mergeSort fun x y => decide (x ≤ y)).toArray) os := Any.slices_Sort_string Try.lays190 blk off cap ss w hH hblk hsz
open Go.RowKit Go.Sort in
theorem Try.slices_Sort_string_none (p : Option Addr) (cap : Nat) (w : World) :
    Calls Try.prog 160 #[.slice p 0 cap] w fun e w' => e = .returned (.tuple #[]) ∧ w' = w := Any.slices_Sort_string_none Try.lays190 p cap w
end Go.Proofs
