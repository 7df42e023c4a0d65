import Derived.Shelf.Lay
import Derived.Shelf.LaySoft
import Derived.Test.YtnofgffkfapodaaDoorProg
