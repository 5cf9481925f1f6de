import Derived.Test.YtbcfkajcmbckbaaGreatDoorLK
/-! (In the seat of SchemaNil there is no docketref01.) -/
namespace Go.Proofs.YtbcfkajcmbckbaaGreatDoor
end Go.Proofs.YtbcfkajcmbckbaaGreatDoor
