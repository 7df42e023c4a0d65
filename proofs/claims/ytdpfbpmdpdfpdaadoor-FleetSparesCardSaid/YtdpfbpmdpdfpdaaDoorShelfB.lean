/- Nothing is laid of the library in this seat: no number is written as text here, and no words are joined. -/
import Derived.Shelf.Lay
import Derived.Shelf.LaySoft
import Derived.Test.YtdpfbpmdpdfpdaaDoorProg
