import Derived.Test.YtmlbofbnklmedaaS12
import Derived.Deep.RegionLaw
/-! slices.Delete of one item of a list of any length. -/
namespace Go.Proofs.Ytmlbofbnklmedaa
open Go Go.RowKit

def lays : List Value → Nat → List Value → List Value
  | xs, _, [] => xs
  | xs, o, v :: r => lays (xs.set o v) (o + 1) r
theorem lays_eq : (vs : List Value) → (xs : List Value) → (o : Nat) → o + vs.length ≤ xs.length → lays xs o vs = xs.take o ++ vs ++ xs.drop (o + vs.length)
  | [], xs, o, _ => by simp [lays]
  | v :: r, xs, o, h => by
    simp only [List.length_cons] at h
    rw [lays, lays_eq r (xs.set o v) (o + 1) (by simp; omega)]
    have h1 : (xs.set o v).take (o + 1) = xs.take o ++ [v] := by
      rw [List.take_add_one, List.take_set_of_le (Nat.le_refl _)]
      simp [show o < xs.length by omega]
    have h2 : (xs.set o v).drop (o + 1 + r.length) = xs.drop (o + 1 + r.length) := List.drop_set_of_lt (by omega)
    rw [h1, h2]
    simp [show o + 1 + r.length = o + (r.length + 1) by omega]
theorem own_lays {lo : Nat} {e : TypeId} {sz g n cap : Nat} : (vs : List Value) → (w : World) → (xs : List Value) → (o : Nat) → w.ownsRow lo e sz (.slice (some ⟨g, 0, none⟩) n cap) n xs → (w.setCells g o vs).ownsRow lo e sz (.slice (some ⟨g, 0, none⟩) n cap) n (lays xs o vs)
  | [], _, _, _, h => h
  | v :: r, w, xs, o, h => own_lays r (w.setCell ⟨g, o, none⟩ v) (xs.set o v) (o + 1) (h.stored o v).1
theorem own_less {lo : Nat} {e : TypeId} {sz g n m cap : Nat} {w : World} {xs : List Value} (h : w.ownsRow lo e sz (.slice (some ⟨g, 0, none⟩) n cap) n xs) (hm : m ≤ n) : w.ownsRow lo e sz (.slice (some ⟨g, 0, none⟩) m cap) m (xs.take (m * sz)) := by
  obtain ⟨h1, ⟨hv, _⟩ | ⟨g', cap', cur, hv, hg, hh, hc, hx, hs, hr⟩⟩ := h
  · cases hv
  · cases hv
    have hms : m * sz ≤ n * sz := Nat.mul_le_mul_right _ hm
    refine ⟨by rw [List.length_take]; omega, .inr ⟨g, cap, cur, rfl, hg, hh, by omega, hx, hs, ?_⟩⟩
    rw [← hr, List.take_take, Nat.min_eq_left hms]
theorem own_there {lo : Nat} {e : TypeId} {sz g n cap : Nat} {w : World} {xs : List Value} (h : w.ownsRow lo e sz (.slice (some ⟨g, 0, none⟩) n cap) n xs) (j : Nat) (hj : j < n * sz) : (w.cell? ⟨g, j, none⟩).isSome = true ∧ w.frozen? ⟨g, j, none⟩ = false := by
  obtain ⟨h1, ⟨hv, _⟩ | ⟨g', cap', cur, hv, hg, hh, hc, hx, hs, hr⟩⟩ := h
  · cases hv
  · cases hv
    have : n * sz ≤ cap * sz := Nat.mul_le_mul_right _ hc
    exact ⟨by simp only [World.cell?, hh]; show (cur[j]?).isSome = true; simp; omega, by simp [World.frozen?, hh]⟩
/-- What is left of a list without an item. -/
theorem lays_out {xs zs : List Value} {sz n i : Nat} (hn : xs.length = n * sz) (hi : i < n) (hz : zs.length = sz) : (lays (lays xs (i * sz) (xs.drop ((i + 1) * sz))) ((n - 1) * sz) zs).take ((n - 1) * sz) = xs.take (i * sz) ++ xs.drop ((i + 1) * sz) := by
  obtain ⟨m, rfl⟩ : ∃ m, n = m + 1 := ⟨n - 1, by omega⟩
  have e1 : (i + 1) * sz = i * sz + sz := by rw [Nat.add_mul, Nat.one_mul]
  have e2 : (m + 1) * sz = m * sz + sz := by rw [Nat.add_mul, Nat.one_mul]
  have e3 : i * sz ≤ m * sz := Nat.mul_le_mul_right _ (by omega)
  rw [Nat.add_sub_cancel]
  have hl : (xs.drop ((i + 1) * sz)).length = m * sz - i * sz := by rw [List.length_drop]; omega
  have ha := lays_eq (xs.drop ((i + 1) * sz)) xs (i * sz) (by rw [hl]; omega)
  have hal : (lays xs (i * sz) (xs.drop ((i + 1) * sz))).length = xs.length := by rw [ha]; simp only [List.length_append, List.length_take, List.length_drop]; omega
  rw [lays_eq zs _ (m * sz) (by rw [hal, hz]; omega), List.append_assoc, List.take_append_of_le_length (by rw [List.length_take, hal]; omega), List.take_take, Nat.min_self, ha, List.take_append_of_le_length (by simp only [List.length_append, List.length_take, List.length_drop]; omega), List.take_of_length_le (by simp only [List.length_append, List.length_take, List.length_drop]; omega)]
def DelPost (w : World) (lo : Nat) (e0 : TypeId) (sz g n cap i : Nat) (xs : List Value) (e : Ending) (w' : World) : Prop :=
  e = .returned (.slice (some ⟨g, 0, none⟩) (n - 1) cap) ∧ But g w w' ∧ w'.ownsRow lo e0 sz (.slice (some ⟨g, 0, none⟩) (n - 1) cap) (n - 1) (xs.take (i * sz) ++ xs.drop ((i + 1) * sz))
theorem but_drew {g : Nat} {w : World} (vs zs : List Value) (o p : Nat) : But g w (((w.drew).setCells g o vs).setCells g p zs) := by
  have a := But.setCells (g := g) vs o w.drew
  have b := But.setCells (g := g) zs p (w.drew.setCells g o vs)
  exact ⟨b.os.trans a.os, b.tape.trans a.tape, b.output.trans a.output, b.size.trans a.size, fun k hk => (b.block k hk).trans (a.block k hk)⟩
theorem clear_s_at (g o c : Nat) (w : World) (h0 : (w.cell? ⟨g, o, none⟩).isSome = true) (f0 : w.frozen? ⟨g, o, none⟩ = false) : (Builtin.clear_ #[22] 0 #[.slice (some ⟨g, o, none⟩) 1 c]).run Try.prog w = .ok (.tuple #[]) (w.setCells g o [.string ⟨#[]⟩]) := by
  have hst := run_storeCells_cells (P := Try.prog) g o [.string ⟨#[]⟩] 0 w (fun j hj => by
    have : j = 0 := by simpa using hj
    subst this; exact h0) (fun j hj => by
    have : j = 0 := by simpa using hj
    subst this; exact f0) (by simp [Value.oneCell'])
  have hv := Try.zeroValue9
  simp only [Nat.add_zero] at hst
  simp [Builtin.clear_, run_underlying Try.underlying22, hv, Value.cells, zero_s1, hst]
theorem clear_v_at (g o c : Nat) (w : World) (h0 : ∀ j, j < 5 → (w.cell? ⟨g, o + j, none⟩).isSome = true) (f0 : ∀ j, j < 5 → w.frozen? ⟨g, o + j, none⟩ = false) : (Builtin.clear_ #[23] 0 #[.slice (some ⟨g, o, none⟩) 1 c]).run Try.prog w = .ok (.tuple #[]) (w.setCells g o [.int .i64 0, .int .i64 0, .string ⟨#[]⟩, .slice none 0 0, .slice none 0 0]) := by
  have hst := run_storeCells_cells (P := Try.prog) g o [.int .i64 0, .int .i64 0, .string ⟨#[]⟩, .slice none 0 0, .slice none 0 0] 0 w (fun j hj => by simpa using h0 j (by simpa using hj)) (fun j hj => by simpa using f0 j (by simpa using hj)) (by simp [Value.oneCell'])
  have hv := Try.zeroValue25
  simp only [Nat.add_zero] at hst
  simp [Builtin.clear_, run_underlying Try.underlying23, hv, Value.cells, zero_v1, hst]
set_option maxHeartbeats 2000000 in
set_option maxRecDepth 100000 in
theorem delete_vn (g n cap i lo : Nat) (xs : List Value) (w : World) (hi : i < n) (hc : n < cap) (h1 : ∀ v ∈ xs, v.oneCell' = true) (h : w.ownsRow lo 25 5 (.slice (some ⟨g, 0, none⟩) n cap) n xs) :
    Calls Try.prog 53 #[.slice (some ⟨g, 0, none⟩) n cap, .int .i64 i, .int .i64 (i + 1 : Nat)] w (DelPost w lo 25 5 g n cap i xs) := by
  obtain ⟨i5, hi5, hz0, hz1, hz2⟩ := info_parts A25
  have hd : w.drew.ownsRow lo 25 5 (.slice (some ⟨g, 0, none⟩) n cap) n xs := h
  have hcap : cap ≤ 9223372036854775807 := (row_cap h).2
  obtain ⟨j, hj⟩ : ∃ j, i + 1 = j := ⟨_, rfl⟩
  have hij : i < j := by omega
  have hjn : j ≤ n := by omega
  have hlen : xs.length = n * 5 := h.1
  obtain ⟨news, hnews⟩ : ∃ news, Hid (xs.drop (j * 5) = news) := ⟨_, rfl⟩
  have s1 : Hid (news.length = (n - j) * 5) := hid_of (by rw [← hnews.out, List.length_drop]; omega)
  have s2 : Hid (∀ u ∈ news, u.oneCell' = true) := hid_of (fun u hu => h1 u (by rw [← hnews.out] at hu; exact List.mem_of_mem_drop hu))
  have s3 : Hid (∀ t, t < news.length → (w.drew.cell? ⟨g, 0 + i * 5 + t, none⟩).isSome = true ∧ w.drew.frozen? ⟨g, 0 + i * 5 + t, none⟩ = false) := hid_of (fun t ht => by
    have := s1.out
    rw [Nat.zero_add]
    exact own_there hd _ (by omega))
  have s4 : Hid (∀ t u, news[t]? = some u → w.drew.cell? (Addr.add ⟨g, j * 5, none⟩ t) = some u) := hid_of (fun t u hu => by
    rw [← hnews.out, List.getElem?_drop] at hu
    rw [add_lit]
    have := (owns_cells hd).1 _ u hu
    rwa [Nat.zero_add] at this)
  obtain ⟨W1, hW1⟩ : ∃ W1, Hid (w.drew.setCells g (0 + i * 5) news = W1) := ⟨_, rfl⟩
  have hr1 : W1.ownsRow lo 25 5 (.slice (some ⟨g, 0, none⟩) n cap) n (lays xs (i * 5) news) := by
    rw [← hW1.out, Nat.zero_add]
    exact own_lays news _ _ _ hd
  have hcl := clear_v_at g ((n - 1) * 5) (cap - (n - 1)) W1 (fun j hj => (own_there hr1 _ (by omega)).1) (fun j hj => (own_there hr1 _ (by omega)).2)
  obtain ⟨W2, hW2⟩ : ∃ W2, Hid (W1.setCells g ((n - 1) * 5) [.int .i64 0, .int .i64 0, .string ⟨#[]⟩, .slice none 0 0, .slice none 0 0] = W2) := ⟨_, rfl⟩
  rw [hW2.out] at hcl
  have hclr : (Builtin.clear_ #[23] 0 #[.slice (some ⟨g, (n - 1) * 5, none⟩) (n - (n - 1)) (cap - (n - 1))]).run Try.prog W1 = .ok (.tuple #[]) W2 := by rw [show n - (n - 1) = 1 by omega]; exact hcl
  clear hcl
  have hfin : Hid (DelPost w lo 25 5 g n cap i xs (.returned (.slice (some ⟨g, 0, none⟩) (n - 1) cap)) W2) := hid_of ⟨rfl, by rw [← hW2.out, ← hW1.out]; exact but_drew _ _ _ _, by
    have := own_less (own_lays [.int .i64 0, .int .i64 0, .string ⟨#[]⟩, .slice none 0 0, .slice none 0 0] W1 _ ((n - 1) * 5) hr1) (m := n - 1) (by omega)
    rw [hW2.out, ← hnews.out, ← hj, lays_out hlen hi rfl] at this
    exact this⟩
  have e1 : Hid (i + (n - j) = n - 1) := hid_of (by omega)
  clear hr1 hd h hlen h1 hnews
  rw [hj]
  have hmix : Try.prog.follows .mixedOrders = true := by kernel_rfl
  have i4 : ¬ cap = j := by omega
  have i5' : ¬ cap = n - 1 := by omega
  have i7 : i ≤ cap := by omega
  have i8 : j ≤ cap := by omega
  have i9 : n - 1 ≤ n := by omega
  have i10 : ¬ i = j := by omega
  clear hj
  go_enter Try.func53, Try.ntmps53
  go_wp2_with fail
  go_region_law_o (refine step_append_room rfl _ _ 23 rfl 25 i5 5 Try.underlying23 hi5 hz1 g 0 i cap (by simp [Act.eval, Act.put]) ⟨g, j * 5, none⟩ (n - j) (cap - j) news (by simp [Act.eval, Act.put]) s1.out s4.out s2.out (by omega) s3.out ?_; rw [hW1.out, e1.out])
  go_wp2
  go_ret
  exact hfin.out
set_option maxHeartbeats 2000000 in
set_option maxRecDepth 100000 in
theorem delete_sn (g n cap i lo : Nat) (xs : List Value) (w : World) (hi : i < n) (hc : n < cap) (h1 : ∀ v ∈ xs, v.oneCell' = true) (h : w.ownsRow lo 9 1 (.slice (some ⟨g, 0, none⟩) n cap) n xs) :
    Calls Try.prog 52 #[.slice (some ⟨g, 0, none⟩) n cap, .int .i64 i, .int .i64 (i + 1 : Nat)] w (DelPost w lo 9 1 g n cap i xs) := by
  obtain ⟨i5, hi5, hz0, hz1, hz2⟩ := info_parts A9
  have hd : w.drew.ownsRow lo 9 1 (.slice (some ⟨g, 0, none⟩) n cap) n xs := h
  have hcap : cap ≤ 9223372036854775807 := (row_cap h).2
  obtain ⟨j, hj⟩ : ∃ j, i + 1 = j := ⟨_, rfl⟩
  have hij : i < j := by omega
  have hjn : j ≤ n := by omega
  have hlen : xs.length = n * 1 := h.1
  obtain ⟨news, hnews⟩ : ∃ news, Hid (xs.drop (j * 1) = news) := ⟨_, rfl⟩
  have s1 : Hid (news.length = (n - j) * 1) := hid_of (by rw [← hnews.out, List.length_drop]; omega)
  have s2 : Hid (∀ u ∈ news, u.oneCell' = true) := hid_of (fun u hu => h1 u (by rw [← hnews.out] at hu; exact List.mem_of_mem_drop hu))
  have s3 : Hid (∀ t, t < news.length → (w.drew.cell? ⟨g, 0 + i * 1 + t, none⟩).isSome = true ∧ w.drew.frozen? ⟨g, 0 + i * 1 + t, none⟩ = false) := hid_of (fun t ht => by
    have := s1.out
    rw [Nat.zero_add]
    exact own_there hd _ (by omega))
  have s4 : Hid (∀ t u, news[t]? = some u → w.drew.cell? (Addr.add ⟨g, j, none⟩ t) = some u) := hid_of (fun t u hu => by
    rw [← hnews.out, List.getElem?_drop, Nat.mul_one] at hu
    rw [add_lit]
    have := (owns_cells hd).1 _ u hu
    rwa [Nat.zero_add] at this)
  obtain ⟨W1, hW1⟩ : ∃ W1, Hid (w.drew.setCells g (0 + i * 1) news = W1) := ⟨_, rfl⟩
  have hr1 : W1.ownsRow lo 9 1 (.slice (some ⟨g, 0, none⟩) n cap) n (lays xs (i * 1) news) := by
    rw [← hW1.out, Nat.zero_add]
    exact own_lays news _ _ _ hd
  have hcl := clear_s_at g (n - 1) (cap - (n - 1)) W1 (own_there hr1 _ (by omega)).1 (own_there hr1 _ (by omega)).2
  obtain ⟨W2, hW2⟩ : ∃ W2, Hid (W1.setCells g (n - 1) [.string ⟨#[]⟩] = W2) := ⟨_, rfl⟩
  rw [hW2.out] at hcl
  have hclr : (Builtin.clear_ #[22] 0 #[.slice (some ⟨g, n - 1, none⟩) (n - (n - 1)) (cap - (n - 1))]).run Try.prog W1 = .ok (.tuple #[]) W2 := by rw [show n - (n - 1) = 1 by omega]; exact hcl
  clear hcl
  have hfin : Hid (DelPost w lo 9 1 g n cap i xs (.returned (.slice (some ⟨g, 0, none⟩) (n - 1) cap)) W2) := hid_of ⟨rfl, by rw [← hW2.out, ← hW1.out]; exact but_drew _ _ _ _, by
    have := own_less (own_lays [.string ⟨#[]⟩] W1 _ ((n - 1) * 1) hr1) (m := n - 1) (by omega)
    rw [← hnews.out, ← hj, lays_out hlen hi rfl, Nat.mul_one (n - 1), hW2.out] at this
    exact this⟩
  have e1 : Hid (i + (n - j) = n - 1) := hid_of (by omega)
  clear hr1 hd h hlen h1 hnews
  rw [hj]
  have hmix : Try.prog.follows .mixedOrders = true := by kernel_rfl
  have i4 : ¬ cap = j := by omega
  have i5' : ¬ cap = n - 1 := by omega
  have i7 : i ≤ cap := by omega
  have i8 : j ≤ cap := by omega
  have i9 : n - 1 ≤ n := by omega
  have i10 : ¬ i = j := by omega
  clear hj
  go_enter Try.func52, Try.ntmps52
  go_wp2_with fail
  go_region_law_o (refine step_append_room rfl _ _ 22 rfl 9 i5 1 Try.underlying22 hi5 hz1 g 0 i cap (by simp [Act.eval, Act.put]) ⟨g, j, none⟩ (n - j) (cap - j) news (by simp [Act.eval, Act.put]) s1.out s4.out s2.out (by omega) s3.out ?_; rw [hW1.out, e1.out])
  go_wp2
  go_ret
  exact hfin.out
end Go.Proofs.Ytmlbofbnklmedaa
