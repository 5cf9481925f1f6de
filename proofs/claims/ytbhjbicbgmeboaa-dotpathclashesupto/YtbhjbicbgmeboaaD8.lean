import Derived.Test.YtbhjbicbgmeboaaD7
/-! Clash. -/
namespace Go.Proofs.Ytbhjbicbgmeboaa
open Go Go.RowKit

set_option maxHeartbeats 2000000 in
set_option maxRecDepth 100000 in
theorem clash_any (n c m d b1 o1 b2 o2 : Nat) (xs ys : List ByteArray) (q : Nat) (hq : min (n : Int) (m : Int) = (q : Int)) (hn : n ≤ c) (hm : m ≤ d) (hq1 : q ≤ xs.length) (hq2 : q ≤ ys.length) (hbig : n ≤ 100 ∧ m ≤ 100) (w : World) (h1 : ∀ j, j < xs.length → w.cell? ⟨b1, o1 + j, none⟩ = some (.string (xs.getD j ByteArray.empty))) (h2 : ∀ j, j < ys.length → w.cell? ⟨b2, o2 + j, none⟩ = some (.string (ys.getD j ByteArray.empty))) :
    Calls Try.prog 16 #[.slice (some ⟨b1, o1, none⟩) n c, .slice (some ⟨b2, o2, none⟩) m d] w fun e w' => e = .returned (.bool (decide (xs.take q = ys.take q))) ∧ ∃ k, w' = w.drewN k := by
  have hqn : q ≤ n ∧ q ≤ m := by omega
  have heq := hid_of (fun v => Try.slices_Equal_string b1 o1 q c b2 o2 q d xs ys (w.drewN v) hq1 hq2 (by omega) (by omega) h1 h2)
  have hqc : q ≤ c := by omega
  have hqd : q ≤ d := by omega
  clear h1 h2
  go_enter Try.func16, Try.ntmps16
  go_wp2_with fail
  go_quiet ((go_at_call 29; exact Calls.quiet_of (heq.out _)))
  go_wp2_with fail
  go_ret
  exact ⟨rfl, nq, rfl⟩

set_option maxHeartbeats 1000000 in
theorem num_any (e : Int) (w : World) : Calls Try.prog 10 #[.int .i64 e] w fun r w' => r = .returned (.int .i64 e) ∧ w' = w := by
  go_enter Try.func10, Try.ntmps10
  go_wp2
  go_ret
  exact ⟨rfl, rfl⟩
set_option maxHeartbeats 1000000 in
theorem number_any (e : Int) (w : World) : Calls Try.prog 20 #[.int .i64 e] w fun r w' => r = .returned (.agg #[.int .i64 3, .int .i64 e, .string ⟨#[]⟩, .slice none 0 0, .slice none 0 0]) ∧ w' = w.alloc (.cells #[.int .i64 3, .int .i64 e, .string ⟨#[]⟩, .slice none 0 0, .slice none 0 0] 25) := by
  go_enter Try.func20, Try.ntmps20
  go_wp2
  go_returns
  exact ⟨rfl, rfl⟩
def tA : ByteArray := ⟨#[97]⟩
def tB : ByteArray := ⟨#[98]⟩
theorem parsed_ab : parseR ⟨#[97, 46, 98]⟩ 0 [] = ([tA, tB], 0, 0) := by kernel_rfl
theorem idx_a : idx tA = none := by kernel_rfl
def seven : Tr := .node 3 7 ⟨#[]⟩ [] []
theorem seven_rep (w : World) : VRep w seven (five 3 7 ⟨#[]⟩ (.slice none 0 0) (.slice none 0 0)) := by
  unfold seven VRep
  exact ⟨_, _, 0, rfl, ⟨_, 0, rfl, ⟨Nat.le_refl _, by omega⟩, .inl rfl⟩, ⟨Nat.le_refl _, by omega⟩, .inl rfl⟩
theorem seven_is {w : World} {cs : List Value} (h : VRep w seven cs) : ∃ nm it, cs = five 3 7 ⟨#[]⟩ nm it := by
  unfold seven VRep at h
  obtain ⟨nm, a, c, h1, _⟩ := h
  exact ⟨_, _, h1⟩
theorem obj_open {w : World} {k x : Int} {tx s : ByteArray} {t : Tr} {cs : List Value} (h : VRep w (.node k x tx [s] [t]) cs) : ∃ b o cn b2 o2 ci cs', cs = five k x tx (.slice (some ⟨b, o, none⟩) 1 cn) (.slice (some ⟨b2, o2, none⟩) 1 ci) ∧ w.cell? ⟨b, o, none⟩ = some (.string s) ∧ CellsAt w b2 o2 cs' ∧ VRep w t cs' ∧ (1 ≤ cn ∧ cn ≤ 9223372036854775807) ∧ 1 ≤ ci := by
  unfold VRep at h
  obtain ⟨nm, a, c, h1, ⟨an, cn, rfl, h2, h3⟩, h4, h5⟩ := h
  obtain ⟨b, o, rfl, hb, h3⟩ := h3.resolve_left (by simp)
  obtain ⟨b2, o2, rfl, hb2, h5⟩ := h5.resolve_left (by simp)
  unfold VRepL at h5
  obtain ⟨cs', h6, h7, _⟩ := h5
  exact ⟨b, o, cn, b2, o2, c, cs', h1, h3 0 s rfl, h6, h7, ⟨by simpa using h2.1, h2.2⟩, by simpa using h4.1⟩
def tV2 : Tr := .node 6 0 ⟨#[]⟩ [tB] [seven]
def tV1 : Tr := .node 6 0 ⟨#[]⟩ [tA] [tV2]
theorem get_1 : getT tV1 [tA, tB] = some seven := by kernel_rfl
theorem get_2 : getT (.node 6 0 ⟨#[]⟩ [tA] [emptyObj]) [tA, tB] = none := by kernel_rfl
end Go.Proofs.Ytbhjbicbgmeboaa
