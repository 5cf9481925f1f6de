import Derived.Test.YtoghaanjdpcodaaGreatDoorV1
/-! (In the seat of SchemaNil there is no docketref01.) -/
namespace Go.Proofs.YtoghaanjdpcodaaGreatDoor
end Go.Proofs.YtoghaanjdpcodaaGreatDoor
