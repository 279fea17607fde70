/- Functions of the library that this program calls, laid: which numbers they have here. -/
import Derived.Shelf.SlLaysF
import Derived.Ground.SlsfProg
import Derived.Test.YtpcijgdpinmcmabProg
namespace Go.Proofs.Ytpcijgdpinmcmab
open Go.Shelf
end Go.Proofs.Ytpcijgdpinmcmab
