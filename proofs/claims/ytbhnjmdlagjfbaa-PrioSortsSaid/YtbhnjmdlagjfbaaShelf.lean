/- Nothing of its own: the modules that the shelf's laying would bring. -/
import Derived.Shelf.Lay
import Derived.Shelf.LaySoft
import Derived.Shelf.SlGeneric
import Derived.Shelf.SlSortCmp.InsertionK
import Derived.Test.YtbhnjmdlagjfbaaProg
