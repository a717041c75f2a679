import Derived.Test.YtgpfohpmgbnimaaProg
import Derived.Shelf.Strings.Shaped
import Derived.Shelf.Small.Wraps
import Derived.Shelf.Strings.IndexAnyAll
