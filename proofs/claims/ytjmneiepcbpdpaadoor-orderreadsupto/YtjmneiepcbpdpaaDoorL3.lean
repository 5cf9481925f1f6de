import Derived.Test.YtjmneiepcbpdpaaDoorF5
import Derived.KernelRfl
/-! live: Bytes of the number one. -/
namespace Go.Proofs.YtjmneiepcbpdpaaDoor
open Go Go.RowKit

def num1 : List Value := [.int .u8 128, .int .u8 0, .int .u8 0, .int .u8 0, .int .u8 0, .int .u8 0, .int .u8 0, .int .u8 1]
def oneT : Tr := .node 3 1 ⟨#[]⟩ [] []
def nullT : Tr := .node 0 0 ⟨#[]⟩ [] []
theorem flat_rep (k x : Int) (w : World) : VRep w (.node k x ⟨#[]⟩ [] []) [.int .i64 k, .int .i64 x, .string ⟨#[]⟩, .slice none 0 0, .slice none 0 0] := by
  unfold VRep
  exact ⟨.slice none 0 0, none, 0, rfl, ⟨none, 0, rfl, ⟨Nat.le_refl _, by omega⟩, .inl rfl⟩, ⟨Nat.le_refl _, by omega⟩, .inl rfl⟩
theorem key_one : Lib.byteCells (keyT oneT) = .int .u8 16 :: num1 := by unfold oneT; rw [keyT3]; kernel_rfl
theorem check_one : checkT 0 oneT = 0 := by decide
theorem bytes1 (w : World) (hU : Lib.Utf8Tabs 1 2 w) (h8 : 3 ≤ w.heap.size) :
    Calls Tryd.prog 6 #[.agg #[.int .i64 3, .int .i64 1, .string ⟨#[]⟩, .slice none 0 0, .slice none 0 0]] w fun e w' => ∃ v', e = .returned (.tuple #[v', .int .i64 0]) ∧ w'.ownsRow w.heap.size 5 1 v' 9 (.int .u8 16 :: num1) ∧ Below w.heap.size w w' := by
  refine (bytes_code oneT 3 1 ⟨#[]⟩ none 0 0 none 0 0 w (hid_e (flat_rep 3 1 w)) (hid_e ?_) (hid_e ?_) (hid_e (fun _ => by decide)) (hid_e hU) h8).mono ?_
  · unfold oneT SmallT SmallL; decide
  · unfold oneT RangeT RangeL; exact ⟨⟨by omega, by omega⟩, trivial⟩
  · rintro e w' ⟨kv, rfl, -, h2, h3⟩
    have h := h2 check_one
    rw [key_one] at h
    exact ⟨kv, by rw [check_one], h, h3⟩
end Go.Proofs.YtjmneiepcbpdpaaDoor
