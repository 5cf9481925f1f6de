import Derived.Test.YthebilggokpciaaS12
import Derived.Deep.RegionLaw
/-! slices.Delete of one item of a list of any length. -/
namespace Go.Proofs.Ythebilggokpciaa
open Go Go.RowKit

def lays : List Value → Nat → List Value → List Value
  | xs, _, [] => xs
  | xs, o, v :: r => lays (xs.set o v) (o + 1) r
theorem lays_eq : (vs : List Value) → (xs : List Value) → (o : Nat) → o + vs.length ≤ xs.length → lays xs o vs = xs.take o ++ vs ++ xs.drop (o + vs.length)
  | [], xs, o, _ => by simp [lays]
  | v :: r, xs, o, h => by
    simp only [List.length_cons] at h
    rw [lays, lays_eq r (xs.set o v) (o + 1) (by simp; omega)]
    have h1 : (xs.set o v).take (o + 1) = xs.take o ++ [v] := by
      rw [List.take_add_one, List.take_set_of_le (Nat.le_refl _)]
      simp [show o < xs.length by omega]
    have h2 : (xs.set o v).drop (o + 1 + r.length) = xs.drop (o + 1 + r.length) := List.drop_set_of_lt (by omega)
    rw [h1, h2]
    simp [show o + 1 + r.length = o + (r.length + 1) by omega]
theorem own_lays {lo : Nat} {e : TypeId} {sz g n cap : Nat} : (vs : List Value) → (w : World) → (xs : List Value) → (o : Nat) → w.ownsRow lo e sz (.slice (some ⟨g, 0, none⟩) n cap) n xs → (w.setCells g o vs).ownsRow lo e sz (.slice (some ⟨g, 0, none⟩) n cap) n (lays xs o vs)
  | [], _, _, _, h => h
  | v :: r, w, xs, o, h => own_lays r (w.setCell ⟨g, o, none⟩ v) (xs.set o v) (o + 1) (h.stored o v).1
theorem own_less {lo : Nat} {e : TypeId} {sz g n m cap : Nat} {w : World} {xs : List Value} (h : w.ownsRow lo e sz (.slice (some ⟨g, 0, none⟩) n cap) n xs) (hm : m ≤ n) : w.ownsRow lo e sz (.slice (some ⟨g, 0, none⟩) m cap) m (xs.take (m * sz)) := by
  obtain ⟨h1, ⟨hv, _⟩ | ⟨g', cap', cur, hv, hg, hh, hc, hx, hs, hr⟩⟩ := h
  · cases hv
  · cases hv
    have hms : m * sz ≤ n * sz := Nat.mul_le_mul_right _ hm
    refine ⟨by rw [List.length_take]; omega, .inr ⟨g, cap, cur, rfl, hg, hh, by omega, hx, hs, ?_⟩⟩
    rw [← hr, List.take_take, Nat.min_eq_left hms]
theorem own_there {lo : Nat} {e : TypeId} {sz g n cap : Nat} {w : World} {xs : List Value} (h : w.ownsRow lo e sz (.slice (some ⟨g, 0, none⟩) n cap) n xs) (j : Nat) (hj : j < n * sz) : (w.cell? ⟨g, j, none⟩).isSome = true ∧ w.frozen? ⟨g, j, none⟩ = false := by
  obtain ⟨h1, ⟨hv, _⟩ | ⟨g', cap', cur, hv, hg, hh, hc, hx, hs, hr⟩⟩ := h
  · cases hv
  · cases hv
    have : n * sz ≤ cap * sz := Nat.mul_le_mul_right _ hc
    exact ⟨by simp only [World.cell?, hh]; show (cur[j]?).isSome = true; simp; omega, by simp [World.frozen?, hh]⟩
/-- What is left of a list without an item. -/
theorem lays_out {xs zs : List Value} {sz n i : Nat} (hn : xs.length = n * sz) (hi : i < n) (hz : zs.length = sz) : (lays (lays xs (i * sz) (xs.drop ((i + 1) * sz))) ((n - 1) * sz) zs).take ((n - 1) * sz) = xs.take (i * sz) ++ xs.drop ((i + 1) * sz) := by
  obtain ⟨m, rfl⟩ : ∃ m, n = m + 1 := ⟨n - 1, by omega⟩
  have e1 : (i + 1) * sz = i * sz + sz := by rw [Nat.add_mul, Nat.one_mul]
  have e2 : (m + 1) * sz = m * sz + sz := by rw [Nat.add_mul, Nat.one_mul]
  have e3 : i * sz ≤ m * sz := Nat.mul_le_mul_right _ (by omega)
  rw [Nat.add_sub_cancel]
  have hl : (xs.drop ((i + 1) * sz)).length = m * sz - i * sz := by rw [List.length_drop]; omega
  have ha := lays_eq (xs.drop ((i + 1) * sz)) xs (i * sz) (by rw [hl]; omega)
  have hal : (lays xs (i * sz) (xs.drop ((i + 1) * sz))).length = xs.length := by rw [ha]; simp only [List.length_append, List.length_take, List.length_drop]; omega
  rw [lays_eq zs _ (m * sz) (by rw [hal, hz]; omega), List.append_assoc, List.take_append_of_le_length (by rw [List.length_take, hal]; omega), List.take_take, Nat.min_self, ha, List.take_append_of_le_length (by simp only [List.length_append, List.length_take, List.length_drop]; omega), List.take_of_length_le (by simp only [List.length_append, List.length_take, List.length_drop]; omega)]
def DelPost (w : World) (lo : Nat) (e0 : TypeId) (sz g n cap i : Nat) (xs : List Value) (e : Ending) (w' : World) : Prop :=
  e = .returned (.slice (some ⟨g, 0, none⟩) (n - 1) cap) ∧ But g w w' ∧ w'.ownsRow lo e0 sz (.slice (some ⟨g, 0, none⟩) (n - 1) cap) (n - 1) (xs.take (i * sz) ++ xs.drop ((i + 1) * sz))
theorem but_drew {g : Nat} {w : World} (vs zs : List Value) (o p : Nat) : But g w (((w.drew).setCells g o vs).setCells g p zs) := by
  have a := But.setCells (g := g) vs o w.drew
  have b := But.setCells (g := g) zs p (w.drew.setCells g o vs)
  exact ⟨b.os.trans a.os, b.tape.trans a.tape, b.output.trans a.output, b.size.trans a.size, fun k hk => (b.block k hk).trans (a.block k hk)⟩
theorem clear_s_at (g o c : Nat) (w : World) (h0 : (w.cell? ⟨g, o, none⟩).isSome = true) (f0 : w.frozen? ⟨g, o, none⟩ = false) : (Builtin.clear_ #[22] 0 #[.slice (some ⟨g, o, none⟩) 1 c]).run Try.prog w = .ok (.tuple #[]) (w.setCells g o [.string ⟨#[]⟩]) := by
  have hst := run_storeCells_cells (P := Try.prog) g o [.string ⟨#[]⟩] 0 w (fun j hj => by
    have : j = 0 := by simpa using hj
    subst this; exact h0) (fun j hj => by
    have : j = 0 := by simpa using hj
    subst this; exact f0) (by simp [Value.oneCell'])
  have hv := Try.zeroValue9
  simp only [Nat.add_zero] at hst
  simp [Builtin.clear_, run_underlying Try.underlying22, hv, Value.cells, zero_s1, hst]
theorem clear_v_at (g o c : Nat) (w : World) (h0 : ∀ j, j < 5 → (w.cell? ⟨g, o + j, none⟩).isSome = true) (f0 : ∀ j, j < 5 → w.frozen? ⟨g, o + j, none⟩ = false) : (Builtin.clear_ #[23] 0 #[.slice (some ⟨g, o, none⟩) 1 c]).run Try.prog w = .ok (.tuple #[]) (w.setCells g o [.int .i64 0, .int .i64 0, .string ⟨#[]⟩, .slice none 0 0, .slice none 0 0]) := by
  have hst := run_storeCells_cells (P := Try.prog) g o [.int .i64 0, .int .i64 0, .string ⟨#[]⟩, .slice none 0 0, .slice none 0 0] 0 w (fun j hj => by simpa using h0 j (by simpa using hj)) (fun j hj => by simpa using f0 j (by simpa using hj)) (by simp [Value.oneCell'])
  have hv := Try.zeroValue25
  simp only [Nat.add_zero] at hst
  simp [Builtin.clear_, run_underlying Try.underlying23, hv, Value.cells, zero_v1, hst]
set_option maxHeartbeats 2000000 in
set_option maxRecDepth 100000 in
theorem delete_vn (g n cap i lo : Nat) (xs : List Value) (w : World) (hi : i < n) (hc : n < cap) (h1 : ∀ v ∈ xs, v.oneCell' = true) (h : w.ownsRow lo 25 5 (.slice (some ⟨g, 0, none⟩) n cap) n xs) :
    Calls Try.prog 53 #[.slice (some ⟨g, 0, none⟩) n cap, .int .i64 i, .int .i64 (i + 1 : Nat)] w (DelPost w lo 25 5 g n cap i xs) := by
  obtain ⟨i5, hi5, hz0, hz1, hz2⟩ := info_parts A25
  have hd : w.drew.ownsRow lo 25 5 (.slice (some ⟨g, 0, none⟩) n cap) n xs := h
  have hcap : cap ≤ 9223372036854775807 := (row_cap h).2
  obtain ⟨j, hj⟩ : ∃ j, i + 1 = j := ⟨_, rfl⟩
  have hij : i < j := by omega
  have hjn : j ≤ n := by omega
  have hlen : xs.length = n * 5 := h.1
  obtain ⟨news, hnews⟩ : ∃ news, Hid (xs.drop (j * 5) = news) := ⟨_, rfl⟩
  have s1 : Hid (news.length = (n - j) * 5) := hid_of (by rw [← hnews.out, List.length_drop]; omega)
  have s2 : Hid (∀ u ∈ news, u.oneCell' = true) := hid_of (fun u hu => h1 u (by rw [← hnews.out] at hu; exact List.mem_of_mem_drop hu))
  have s3 : Hid (∀ t, t < news.length → (w.drew.cell? ⟨g, 0 + i * 5 + t, none⟩).isSome = true ∧ w.drew.frozen? ⟨g, 0 + i * 5 + t, none⟩ = false) := hid_of (fun t ht => by
    have := s1.out
    rw [Nat.zero_add]
    exact own_there hd _ (by omega))
  have s4 : Hid (∀ t u, news[t]? = some u → w.drew.cell? (Addr.add ⟨g, j * 5, none⟩ t) = some u) := hid_of (fun t u hu => by
    rw [← hnews.out, List.getElem?_drop] at hu
    rw [add_lit]
    have := (owns_cells hd).1 _ u hu
    rwa [Nat.zero_add] at this)
  obtain ⟨W1, hW1⟩ : ∃ W1, Hid (w.drew.setCells g (0 + i * 5) news = W1) := ⟨_, rfl⟩
  have hr1 : W1.ownsRow lo 25 5 (.slice (some ⟨g, 0, none⟩) n cap) n (lays xs (i * 5) news) := by
    rw [← hW1.out, Nat.zero_add]
    exact own_lays news _ _ _ hd
  have hcl := clear_v_at g ((n - 1) * 5) (cap - (n - 1)) W1 (fun j hj => (own_there hr1 _ (by omega)).1) (fun j hj => (own_there hr1 _ (by omega)).2)
  obtain ⟨W2, hW2⟩ : ∃ W2, Hid (W1.setCells g ((n - 1) * 5) [.int .i64 0, .int .i64 0, .string ⟨#[]⟩, .slice none 0 0, .slice none 0 0] = W2) := ⟨_, rfl⟩
  rw [hW2.out] at hcl
  have hclr : (Builtin.clear_ #[23] 0 #[.slice (some ⟨g, (n - 1) * 5, none⟩) (n - (n - 1)) (cap - (n - 1))]).run Try.prog W1 = .ok (.tuple #[]) W2 := by rw [show n - (n - 1) = 1 by omega]; exact hcl
  clear hcl
  have hfin : Hid (DelPost w lo 25 5 g n cap i xs (.returned (.slice (some ⟨g, 0, none⟩) (n - 1) cap)) W2) := hid_of ⟨rfl, by rw [← hW2.out, ← hW1.out]; exact but_drew _ _ _ _, by
    have := own_less (own_lays [.int .i64 0, .int .i64 0, .string ⟨#[]⟩, .slice none 0 0, .slice none 0 0] W1 _ ((n - 1) * 5) hr1) (m := n - 1) (by omega)
    rw [hW2.out, ← hnews.out, ← hj, lays_out hlen hi rfl] at this
    exact this⟩
  have e1 : Hid (i + (n - j) = n - 1) := hid_of (by omega)
  clear hr1 hd h hlen h1 hnews
  rw [hj]
  have hmix : Try.prog.follows .mixedOrders = true := by kernel_rfl
  have i4 : ¬ cap = j := by omega
  have i5' : ¬ cap = n - 1 := by omega
  have i7 : i ≤ cap := by omega
  have i8 : j ≤ cap := by omega
  have i9 : n - 1 ≤ n := by omega
  have i10 : ¬ i = j := by omega
  clear hj
  go_enter Try.func53, Try.ntmps53
  go_wp2_with fail
  go_region_law_o (refine step_append_room rfl _ _ 23 rfl 25 i5 5 Try.underlying23 hi5 hz1 g 0 i cap (by simp [Act.eval, Act.put]) ⟨g, j * 5, none⟩ (n - j) (cap - j) news (by simp [Act.eval, Act.put]) s1.out s4.out s2.out (by omega) s3.out ?_; rw [hW1.out, e1.out])
  go_wp2
  go_ret
  exact hfin.out
set_option maxHeartbeats 2000000 in
set_option maxRecDepth 100000 in
theorem delete_sn (g n cap i lo : Nat) (xs : List Value) (w : World) (hi : i < n) (hc : n < cap) (h1 : ∀ v ∈ xs, v.oneCell' = true) (h : w.ownsRow lo 9 1 (.slice (some ⟨g, 0, none⟩) n cap) n xs) :
    Calls Try.prog 52 #[.slice (some ⟨g, 0, none⟩) n cap, .int .i64 i, .int .i64 (i + 1 : Nat)] w (DelPost w lo 9 1 g n cap i xs) := by
  obtain ⟨i5, hi5, hz0, hz1, hz2⟩ := info_parts A9
  have hd : w.drew.ownsRow lo 9 1 (.slice (some ⟨g, 0, none⟩) n cap) n xs := h
  have hcap : cap ≤ 9223372036854775807 := (row_cap h).2
  obtain ⟨j, hj⟩ : ∃ j, i + 1 = j := ⟨_, rfl⟩
  have hij : i < j := by omega
  have hjn : j ≤ n := by omega
  have hlen : xs.length = n * 1 := h.1
  obtain ⟨news, hnews⟩ : ∃ news, Hid (xs.drop (j * 1) = news) := ⟨_, rfl⟩
  have s1 : Hid (news.length = (n - j) * 1) := hid_of (by rw [← hnews.out, List.length_drop]; omega)
  have s2 : Hid (∀ u ∈ news, u.oneCell' = true) := hid_of (fun u hu => h1 u (by rw [← hnews.out] at hu; exact List.mem_of_mem_drop hu))
  have s3 : Hid (∀ t, t < news.length → (w.drew.cell? ⟨g, 0 + i * 1 + t, none⟩).isSome = true ∧ w.drew.frozen? ⟨g, 0 + i * 1 + t, none⟩ = false) := hid_of (fun t ht => by
    have := s1.out
    rw [Nat.zero_add]
    exact own_there hd _ (by omega))
  have s4 : Hid (∀ t u, news[t]? = some u → w.drew.cell? (Addr.add ⟨g, j, none⟩ t) = some u) := hid_of (fun t u hu => by
    rw [← hnews.out, List.getElem?_drop, Nat.mul_one] at hu
    rw [add_lit]
    have := (owns_cells hd).1 _ u hu
    rwa [Nat.zero_add] at this)
  obtain ⟨W1, hW1⟩ : ∃ W1, Hid (w.drew.setCells g (0 + i * 1) news = W1) := ⟨_, rfl⟩
  have hr1 : W1.ownsRow lo 9 1 (.slice (some ⟨g, 0, none⟩) n cap) n (lays xs (i * 1) news) := by
    rw [← hW1.out, Nat.zero_add]
    exact own_lays news _ _ _ hd
  have hcl := clear_s_at g (n - 1) (cap - (n - 1)) W1 (own_there hr1 _ (by omega)).1 (own_there hr1 _ (by omega)).2
  obtain ⟨W2, hW2⟩ : ∃ W2, Hid (W1.setCells g (n - 1) [.string ⟨#[]⟩] = W2) := ⟨_, rfl⟩
  rw [hW2.out] at hcl
  have hclr : (Builtin.clear_ #[22] 0 #[.slice (some ⟨g, n - 1, none⟩) (n - (n - 1)) (cap - (n - 1))]).run Try.prog W1 = .ok (.tuple #[]) W2 := by rw [show n - (n - 1) = 1 by omega]; exact hcl
  clear hcl
  have hfin : Hid (DelPost w lo 9 1 g n cap i xs (.returned (.slice (some ⟨g, 0, none⟩) (n - 1) cap)) W2) := hid_of ⟨rfl, by rw [← hW2.out, ← hW1.out]; exact but_drew _ _ _ _, by
    have := own_less (own_lays [.string ⟨#[]⟩] W1 _ ((n - 1) * 1) hr1) (m := n - 1) (by omega)
    rw [← hnews.out, ← hj, lays_out hlen hi rfl, Nat.mul_one (n - 1), hW2.out] at this
    exact this⟩
  have e1 : Hid (i + (n - j) = n - 1) := hid_of (by omega)
  clear hr1 hd h hlen h1 hnews
  rw [hj]
  have hmix : Try.prog.follows .mixedOrders = true := by kernel_rfl
  have i4 : ¬ cap = j := by omega
  have i5' : ¬ cap = n - 1 := by omega
  have i7 : i ≤ cap := by omega
  have i8 : j ≤ cap := by omega
  have i9 : n - 1 ≤ n := by omega
  have i10 : ¬ i = j := by omega
  clear hj
  go_enter Try.func52, Try.ntmps52
  go_wp2_with fail
  go_region_law_o (refine step_append_room rfl _ _ 22 rfl 9 i5 1 Try.underlying22 hi5 hz1 g 0 i cap (by simp [Act.eval, Act.put]) ⟨g, j, none⟩ (n - j) (cap - j) news (by simp [Act.eval, Act.put]) s1.out s4.out s2.out (by omega) s3.out ?_; rw [hW1.out, e1.out])
  go_wp2
  go_ret
  exact hfin.out
end Go.Proofs.Ythebilggokpciaa
/-! A turn without its item, of every value. -/
namespace Go.Proofs.Ythebilggokpciaa
open Go Go.RowKit

def nilT : Tr := .node 0 0 ⟨#[]⟩ [] []
def withoutT (k : Int) (ns : List ByteArray) (its : List Tr) (m : Nat) : Tr :=
  if k = 5 then .node 5 0 ⟨#[]⟩ [] (its.set m nilT) else .node k 0 ⟨#[]⟩ ((keepNs k ns its).eraseIdx m) ((keepIts k ns its).eraseIdx m)
theorem ItemsRep.drop {W : World} : {ts : List Tr} → {xs : List Value} → (n : Nat) → ItemsRep W ts xs → ItemsRep W (ts.drop n) (xs.drop (n * 5))
  | ts, xs, 0, h => by simpa using h
  | [], xs, n + 1, h => by unfold ItemsRep at h; subst h; simp [ItemsRep]
  | t :: ts, xs, n + 1, h => by
    unfold ItemsRep at h
    obtain ⟨cs, r, rfl, h1, h2, h3⟩ := h
    have := ItemsRep.drop n h3
    rw [List.drop_succ_cons, show (n + 1) * 5 = cs.length + n * 5 by omega, List.drop_length_add_append]
    exact this
theorem ItemsRep.erase {W : World} {ts : List Tr} {xs : List Value} (m : Nat) (h : ItemsRep W ts xs) : ItemsRep W (ts.eraseIdx m) (xs.take (m * 5) ++ xs.drop ((m + 1) * 5)) := by
  rw [List.eraseIdx_eq_take_drop_succ]
  exact ItemsRep.app (h.take m) (h.drop (m + 1))
theorem strs_erase (ns : List ByteArray) (m : Nat) : (strs ns).take (m * 1) ++ (strs ns).drop ((m + 1) * 1) = strs (ns.eraseIdx m) := by
  rw [List.eraseIdx_eq_take_drop_succ]
  unfold strs
  simp [List.map_take, List.map_drop]
set_option maxHeartbeats 600000 in
set_option maxRecDepth 100000 in
theorem without5 (x : Int) (tx : ByteArray) (an : Option Addr) (ln cn : Nat) (ai : Option Addr) (li ci : Nat) (sg : ByteArray) (m n : Nat) (hm : m < n) (its : List Tr) (hn : its.length = n) (xs : List Value) (S : Nat → Prop) (w0 w : World) (h0 : Below w0.heap.size w0 w) (hS : ∀ k, k < w0.heap.size → S k)
    (hI : ItemsRep w0 its xs) (hA : ∀ W, Below w.heap.size w W → Calls Try.prog 51 #[.agg #[.int .i64 5, .int .i64 x, .string tx, .slice an ln cn, .slice ai li ci]] W (Anew W 5 n (strs []) xs)) :
    Calls Try.prog 33 #[.agg #[.int .i64 5, .int .i64 x, .string tx, .slice an ln cn, .slice ai li ci, .string sg, .int .i64 m]] w (WithPost w S (.node 5 0 ⟨#[]⟩ [] (its.set m nilT))) := by
  have hB2 : ∀ p1 p2, Below w.heap.size w ((w.alloc p1).alloc p2) := fun p1 p2 => ((Below.refl _ w).alloc (Nat.le_refl _) p1).alloc (by simp) p2
  have hn0 := fun o1 o2 => new1 w o1 o2
  have hn1 := fun o1 o2 => new2 w o1 o2
  have hA' := fun p1 p2 => hA _ (hB2 p1 p2)
  clear hA
  go_enter Try.func33, Try.ntmps33
  go_wp2_with fail
  refine (hA' _ _).mono ?_
  rintro e w4 ⟨hb4, nm, gi, rfl, hrow, hnm⟩
  clear hA'
  have t0 := (hb4.block _ (by simp; omega)).trans (hn0 _ _)
  have t2 := (hb4.block _ (by simp)).trans (hn1 _ _)
  have HB : Below w.heap.size w w4 := (hB2 _ _).trans (hb4.mono (by simp; omega))
  have hsz : w.heap.size + 2 ≤ w4.heap.size := by have := hb4.size; simp at this; omega
  simp only [World.size_alloc] at hrow hnm
  clear hb4 hB2 hn0 hn1
  have hgi := ownsRow_ge hrow (g := gi) rfl
  obtain rfl : nm = .slice none 0 0 := by
    rcases hnm with ⟨_, h⟩ | ⟨h, _⟩
    · exact h
    · omega
  clear hnm
  obtain ⟨W5, hW5⟩ : ∃ W5, Hid (w4.alloc (.cells #[.int .i64 5, .int .i64 0, .string ⟨#[]⟩, .slice none 0 0, .slice (some ⟨gi, 0, none⟩) n (n + 1)] 25) = W5) := ⟨_, rfl⟩
  have hb5 : Below w4.heap.size w4 W5 := by rw [← hW5.out]; exact (Below.refl _ w4).alloc (Nat.le_refl _) _
  have hs5 : W5.heap.size = w4.heap.size + 1 := by rw [← hW5.out]; simp
  have t5 : W5.heap[w4.heap.size]? = some (.cells #[.int .i64 5, .int .i64 0, .string ⟨#[]⟩, .slice none 0 0, .slice (some ⟨gi, 0, none⟩) n (n + 1)] 25) := by rw [← hW5.out]; exact heap_alloc_new w4 _
  replace t0 := (hb5.block _ (by omega)).trans t0
  replace t2 := (hb5.block _ (by omega)).trans t2
  replace hrow := ownsRow_below hrow hb5
  have i6 : W5.cell? ⟨w.heap.size, 6, none⟩ = some (.int .i64 m) := by simp [World.cell?, t0]
  obtain ⟨v0', -, -, -, v4', -⟩ := row_cells t5
  obtain ⟨u0, c0⟩ := row_at5 hrow (m * 5) (by omega)
  have f0 := hrow.frozenAt (m * 5)
  obtain ⟨u1, c1⟩ := row_at5 hrow (m * 5 + 1) (by omega)
  have f1 := hrow.frozenAt (m * 5 + 1)
  obtain ⟨u2, c2⟩ := row_at5 hrow (m * 5 + 2) (by omega)
  have f2 := hrow.frozenAt (m * 5 + 2)
  obtain ⟨u3, c3⟩ := row_at5 hrow (m * 5 + 3) (by omega)
  have f3 := hrow.frozenAt (m * 5 + 3)
  obtain ⟨u4, c4⟩ := row_at5 hrow (m * 5 + 4) (by omega)
  have f4 := hrow.frozenAt (m * 5 + 4)
  obtain ⟨W6, hW6⟩ : ∃ W6, Hid ((((((W5.setCell ⟨gi, m * 5, none⟩ (.int .i64 0)).setCell ⟨gi, m * 5 + 1, none⟩ (.int .i64 0)).setCell ⟨gi, m * 5 + 2, none⟩ (.string ⟨#[]⟩)).setCell ⟨gi, m * 5 + 3, none⟩ (.slice none 0 0)).setCell ⟨gi, m * 5 + 4, none⟩ (.slice none 0 0)) = W6) := ⟨_, rfl⟩
  have r6 := (((((hrow.stored (m * 5) (.int .i64 0)).1.stored (m * 5 + 1) (.int .i64 0)).1.stored (m * 5 + 2) (.string ⟨#[]⟩)).1.stored (m * 5 + 3) (.slice none 0 0)).1.stored (m * 5 + 4) (.slice none 0 0)).1
  rw [hW6.out] at r6
  have k6 : ∀ j, j ≠ gi → W6.heap[j]? = W5.heap[j]? := fun j hj => by rw [← hW6.out]; exact (Below.heap_setCell _ _ _ _ hj).trans ((Below.heap_setCell _ _ _ _ hj).trans ((Below.heap_setCell _ _ _ _ hj).trans ((Below.heap_setCell _ _ _ _ hj).trans (Below.heap_setCell _ _ _ _ hj))))
  have s6 : W6.heap.size = W5.heap.size := by rw [← hW6.out]; simp [World.setCell]
  have B5 : Below w.heap.size w W5 := HB.trans (hb5.mono HB.size)
  have B6 : Below w.heap.size w W6 := ⟨by rw [← hW6.out]; exact B5.os, by rw [← hW6.out]; exact B5.tape, by rw [← hW6.out]; exact B5.output, by rw [s6]; exact B5.size, fun j hj => (k6 j (by omega)).trans (B5.block j hj)⟩
  have t56 := (k6 _ (by omega)).trans t5
  have t26 := (k6 _ (by omega)).trans t2
  obtain ⟨v0, v1, v2, v3, v4, -⟩ := row_cells t56
  obtain ⟨z0, z1, z2, z3, z4, zf⟩ := row_cells t26
  have g0 := zf 0; have g1 := zf 1; have g2 := zf 2; have g3 := zf 3; have g4 := zf 4
  clear zf
  have i1 : (m : Int) < (n : Int) := by omega
  have i2 : (0 : Int) ≤ (m : Int) := by omega
  replace r6 := hid_of r6; replace t26 := hid_of t26; replace B6 := hid_of B6; replace s6 := hid_of s6; replace hs5 := hid_of hs5; replace hsz := hid_of hsz
  replace hI := hid_of hI; replace h0 := hid_of h0; replace HB := hid_of HB; replace hS := hid_of hS; replace hgi := hid_of hgi
  clear k6 B5 hb5 t5 t2 t0 hrow t56
  go_wp2_with (first | rw [hW5.out] | rw [hW6.out])
  have hr := put5_cells t26.out (.int .i64 5) (.int .i64 0) (.string ⟨#[]⟩) (.slice none 0 0) (.slice (some ⟨gi, 0, none⟩) n (n + 1))
  have q0 := hr 0; have q1 := hr 1; have q2 := hr 2; have q3 := hr 3; have q4 := hr 4
  clear hr
  refine bodyPost_ret (v := .agg #[.int .i64 5, .int .i64 0, .string ⟨#[]⟩, .slice none 0 0, .slice (some ⟨gi, 0, none⟩) n (n + 1)]) (by simp [results, Try.results33, go_sem, q0, q1, q2, q3, q4]) rfl ?_
  clear q0 q1 q2 q3 q4 z0 z1 z2 z3 z4 g0 g1 g2 g3 g4 v0 v1 v2 v3 v4
  have hgi1 := hgi.out; have hsz1 := hsz.out; have hs51 := hs5.out; have s61 := s6.out
  have hBf : Below w.heap.size w (put5 W6 (w.heap.size + 1) (.int .i64 5) (.int .i64 0) (.string ⟨#[]⟩) (.slice none 0 0) (.slice (some ⟨gi, 0, none⟩) n (n + 1))) := B6.out.trans (put5_below (by omega) _ _ _ _ _)
  refine ⟨hBf, five 5 0 ⟨#[]⟩ (.slice none 0 0) (.slice (some ⟨gi, 0, none⟩) n (n + 1)), _, _, _, _, _, _, _, _, _, rfl, rfl, ?_⟩
  have hlen : (its.set m nilT).length = n := by rw [List.length_set]; exact hn
  have hfin := with_fin (k := 5) (ns := []) (its := its.set m nilT) (nm := .slice none 0 0) (gi := gi) (ci := n + 1) h0.out hS.out hBf (by
    rw [hlen]
    exact ownsRow_keep (ownsRow_lo r6.out (by omega)) (fun g hg => by cases hg; exact put5_far _ _ _ _ _ (show gi ≠ w.heap.size + 1 by omega))) (fun W' _ => ⟨none, 0, rfl, ⟨Nat.le_refl _, by omega⟩, .inl rfl⟩) (fun W' hk hs ha => by
      refine ItemsRep.set (k := 0) (x := 0) (s := ⟨#[]⟩) (nm := .slice none 0 0) (it := .slice none 0 0) (zero_rep W') m (by omega) (hI.out.mono hk hs))
  rw [hlen] at hfin
  exact hfin
end Go.Proofs.Ythebilggokpciaa
/-! A turn of an object without its item. -/
namespace Go.Proofs.Ythebilggokpciaa
open Go Go.RowKit

theorem erase_len {α : Type} {l : List α} {n m : Nat} (h : l.length = n) (hm : m < n) : (l.eraseIdx m).length = n - 1 := by rw [List.length_eraseIdx, if_pos (by omega), h]
theorem seenR_own {W : World} {lo g cap : Nat} {l : List ByteArray} (h : W.ownsRow lo 9 1 (.slice (some ⟨g, 0, none⟩) l.length cap) l.length (strs l)) : SeenR W (fun k => lo ≤ k) (.slice (some ⟨g, 0, none⟩) l.length cap) l := fun W' ha => by
  obtain ⟨hc, hlt, hge, _⟩ := owns_cells h
  refine ⟨_, cap, rfl, row_cap h, .inr ⟨g, 0, rfl, Nat.lt_of_lt_of_le hlt ha.1, fun j s hj => ?_⟩⟩
  exact ha.2 _ _ hge (hc j _ (by unfold strs; rw [List.getElem?_map, hj]; rfl))
set_option maxHeartbeats 800000 in
set_option maxRecDepth 100000 in
theorem without6 (x : Int) (tx : ByteArray) (an : Option Addr) (ln cn : Nat) (ai : Option Addr) (li ci : Nat) (sg : ByteArray) (m n : Nat) (hm : m < n) (ns : List ByteArray) (hns : ns.length = n) (its : List Tr) (hn : its.length = n) (xs : List Value) (S : Nat → Prop) (w0 w : World) (h0 : Below w0.heap.size w0 w) (hS : ∀ k, k < w0.heap.size → S k)
    (hI : ItemsRep w0 its xs) (hA : ∀ W, Below w.heap.size w W → Calls Try.prog 51 #[.agg #[.int .i64 6, .int .i64 x, .string tx, .slice an ln cn, .slice ai li ci]] W (Anew W 6 n (strs ns) xs)) :
    Calls Try.prog 33 #[.agg #[.int .i64 6, .int .i64 x, .string tx, .slice an ln cn, .slice ai li ci, .string sg, .int .i64 m]] w (WithPost w S (.node 6 0 ⟨#[]⟩ (ns.eraseIdx m) (its.eraseIdx m))) := by
  have hB2 : ∀ p1 p2, Below w.heap.size w ((w.alloc p1).alloc p2) := fun p1 p2 => ((Below.refl _ w).alloc (Nat.le_refl _) p1).alloc (by simp) p2
  have hn0 := fun o1 o2 => new1 w o1 o2
  have hn1 := fun o1 o2 => new2 w o1 o2
  have hA' := fun p1 p2 => hA _ (hB2 p1 p2)
  clear hA
  go_enter Try.func33, Try.ntmps33
  go_wp2_with fail
  refine (hA' _ _).mono ?_
  rintro e w4 ⟨hb4, nm, gi, rfl, hrow, hnm⟩
  clear hA'
  have t0 := (hb4.block _ (by simp; omega)).trans (hn0 _ _)
  have t2 := (hb4.block _ (by simp)).trans (hn1 _ _)
  have HB : Below w.heap.size w w4 := (hB2 _ _).trans (hb4.mono (by simp; omega))
  have hsz : w.heap.size + 2 ≤ w4.heap.size := by have := hb4.size; simp at this; omega
  simp only [World.size_alloc] at hrow hnm
  clear hb4 hB2 hn0 hn1
  have hgi := ownsRow_ge hrow (g := gi) rfl
  obtain ⟨gn, hne, rfl, hnr⟩ : ∃ gn, gn ≠ gi ∧ nm = .slice (some ⟨gn, 0, none⟩) n (n + 1) ∧ w4.ownsRow (w.heap.size + 1 + 1) 9 1 (.slice (some ⟨gn, 0, none⟩) n (n + 1)) n (strs ns) := by
    rcases hnm with ⟨h, _⟩ | ⟨_, h⟩
    · omega
    · exact h
  clear hnm
  have hgn := ownsRow_ge hnr (g := gn) rfl
  have hcap := (row_cap hrow).2
  obtain ⟨W5, hW5⟩ : ∃ W5, Hid (w4.alloc (.cells #[.int .i64 6, .int .i64 0, .string ⟨#[]⟩, .slice (some ⟨gn, 0, none⟩) n (n + 1), .slice (some ⟨gi, 0, none⟩) n (n + 1)] 25) = W5) := ⟨_, rfl⟩
  have hb5 : Below w4.heap.size w4 W5 := by rw [← hW5.out]; exact (Below.refl _ w4).alloc (Nat.le_refl _) _
  have hs5 : W5.heap.size = w4.heap.size + 1 := by rw [← hW5.out]; simp
  have t5 : W5.heap[w4.heap.size]? = some (.cells #[.int .i64 6, .int .i64 0, .string ⟨#[]⟩, .slice (some ⟨gn, 0, none⟩) n (n + 1), .slice (some ⟨gi, 0, none⟩) n (n + 1)] 25) := by rw [← hW5.out]; exact heap_alloc_new w4 _
  replace t0 := (hb5.block _ (by omega)).trans t0
  replace t2 := (hb5.block _ (by omega)).trans t2
  replace hrow := ownsRow_below hrow hb5
  replace hnr := ownsRow_below hnr hb5
  have B5 : Below w.heap.size w W5 := HB.trans (hb5.mono HB.size)
  have hm1 : (m : Int) + 1 = ((m + 1 : Nat) : Int) := by omega
  have hds := hid_of (delete_sn gn n (n + 1) m _ (strs ns) W5 hm (by omega) (strs1 _) hnr)
  rw [← hm1] at hds
  have i6 : W5.cell? ⟨w.heap.size, 6, none⟩ = some (.int .i64 m) := by simp [World.cell?, t0]
  obtain ⟨v0, v1, v2, v3, v4, -⟩ := row_cells t5
  have j1 : (m : Int) + 1 ≤ 9223372036854775807 := by omega
  have j2 : -9223372036854775808 ≤ (m : Int) + 1 := by omega
  replace t0 := hid_of t0; replace t2 := hid_of t2; replace t5 := hid_of t5; replace hrow := hid_of hrow; replace B5 := hid_of B5
  replace hs5 := hid_of hs5; replace hsz := hid_of hsz; replace hI := hid_of hI; replace h0 := hid_of h0; replace HB := hid_of HB; replace hS := hid_of hS; replace hgi := hid_of hgi; replace hgn := hid_of hgn; replace hcap := hid_of hcap; replace hne := hid_of hne
  clear hb5 hnr hm1
  go_wp2_with (rw [hW5.out])
  refine hds.out.mono ?_
  rintro e w6 ⟨rfl, hbut6, hr6⟩
  clear v0 v1 v2 v3 v4 i6 hds
  have hgn1 := hgn.out; have hgi1 := hgi.out; have hs51 := hs5.out; have hsz1 := hsz.out; have hne1 := hne.out
  have u5 := (hbut6.block _ (show w4.heap.size ≠ gn by omega)).trans t5.out
  have u0 := (hbut6.block _ (show w.heap.size ≠ gn by omega)).trans t0.out
  have u2 := (hbut6.block _ (show w.heap.size + 1 ≠ gn by omega)).trans t2.out
  have hrow6 := ownsRow_keep hrow.out (fun g hg => by cases hg; exact hbut6.block gi (fun e => hne1 e.symm))
  have B6 : Below w.heap.size w w6 := B5.out.trans (but_below hbut6 (by omega))
  have s6 : w6.heap.size = w4.heap.size + 1 := by rw [hbut6.size]; exact hs51
  obtain ⟨W7, hW7⟩ : ∃ W7, Hid (w6.setCell ⟨w4.heap.size, 3, none⟩ (.slice (some ⟨gn, 0, none⟩) (n - 1) (n + 1)) = W7) := ⟨_, rfl⟩
  have t57 : W7.heap[w4.heap.size]? = some (.cells #[.int .i64 6, .int .i64 0, .string ⟨#[]⟩, .slice (some ⟨gn, 0, none⟩) (n - 1) (n + 1), .slice (some ⟨gi, 0, none⟩) n (n + 1)] 25) := by rw [← hW7.out]; simp [World.setCell, Array.getElem?_modify, u5]
  have k7 : ∀ j, j ≠ w4.heap.size → W7.heap[j]? = w6.heap[j]? := fun j hj => by rw [← hW7.out]; exact Below.heap_setCell _ _ _ _ hj
  have s7 : W7.heap.size = w6.heap.size := by rw [← hW7.out]; simp [World.setCell]
  have B7 : Below w.heap.size w W7 := ⟨by rw [← hW7.out]; exact B6.os, by rw [← hW7.out]; exact B6.tape, by rw [← hW7.out]; exact B6.output, by rw [s7]; exact B6.size, fun j hj => (k7 j (by omega)).trans (B6.block j hj)⟩
  have t07 := (k7 _ (show w.heap.size ≠ w4.heap.size by omega)).trans u0
  have t27 := (k7 _ (show w.heap.size + 1 ≠ w4.heap.size by omega)).trans u2
  have hrow7 := ownsRow_keep hrow6 (fun g hg => by cases hg; exact k7 gi (by omega))
  have hr7 := ownsRow_keep hr6 (fun g hg => by cases hg; exact k7 gn (by omega))
  have hdi := hid_of (delete_vn gi n (n + 1) m _ xs W7 hm (by omega) (ItemsRep.ones hI.out) hrow7)
  rw [show (((m + 1 : Nat) : Int)) = (m : Int) + 1 by omega] at hdi
  obtain ⟨c0, c1, c2, c3, c4, cf⟩ := row_cells u5
  have f3 := cf 3
  clear cf
  have i6 : W7.cell? ⟨w.heap.size, 6, none⟩ = some (.int .i64 m) := by simp [World.cell?, t07]
  obtain ⟨v0, v1, v2, v3, v4, -⟩ := row_cells t57
  replace u5 := hid_of u5; replace u0 := hid_of u0; replace u2 := hid_of u2; replace t57 := hid_of t57; replace t07 := hid_of t07; replace t27 := hid_of t27
  replace B6 := hid_of B6; replace B7 := hid_of B7; replace s6 := hid_of s6; replace s7 := hid_of s7; replace hr7 := hid_of hr7; replace hbut6 := hid_of hbut6
  clear hrow6 hr6 k7 hrow7 t0 t2 t5 hrow hgn1 hgi1 hs51 hsz1 hne1
  go_wp2_with (rw [hW7.out])
  refine hdi.out.mono ?_
  rintro e w8 ⟨rfl, hbut8, hr8⟩
  clear v0 v1 v2 v3 v4 i6 hdi c0 c1 c2 c3 c4 f3 j1 j2
  have hgn1 := hgn.out; have hgi1 := hgi.out; have hsz1 := hsz.out; have hne1 := hne.out; have s61 := s6.out; have s71 := s7.out
  have u8 := (hbut8.block _ (show w4.heap.size ≠ gi by omega)).trans t57.out
  have u28 := (hbut8.block _ (show w.heap.size + 1 ≠ gi by omega)).trans t27.out
  have hr8n := ownsRow_keep hr7.out (fun g hg => by cases hg; exact hbut8.block gn hne1)
  have B8 : Below w.heap.size w w8 := B7.out.trans (but_below hbut8 (by omega))
  have s8 : w8.heap.size = w4.heap.size + 1 := by rw [hbut8.size]; omega
  obtain ⟨W9, hW9⟩ : ∃ W9, Hid (w8.setCell ⟨w4.heap.size, 4, none⟩ (.slice (some ⟨gi, 0, none⟩) (n - 1) (n + 1)) = W9) := ⟨_, rfl⟩
  have t59 : W9.heap[w4.heap.size]? = some (.cells #[.int .i64 6, .int .i64 0, .string ⟨#[]⟩, .slice (some ⟨gn, 0, none⟩) (n - 1) (n + 1), .slice (some ⟨gi, 0, none⟩) (n - 1) (n + 1)] 25) := by rw [← hW9.out]; simp [World.setCell, Array.getElem?_modify, u8]
  have k9 : ∀ j, j ≠ w4.heap.size → W9.heap[j]? = w8.heap[j]? := fun j hj => by rw [← hW9.out]; exact Below.heap_setCell _ _ _ _ hj
  have s9 : W9.heap.size = w8.heap.size := by rw [← hW9.out]; simp [World.setCell]
  have B9 : Below w.heap.size w W9 := ⟨by rw [← hW9.out]; exact B8.os, by rw [← hW9.out]; exact B8.tape, by rw [← hW9.out]; exact B8.output, by rw [s9]; exact B8.size, fun j hj => (k9 j (by omega)).trans (B8.block j hj)⟩
  have t29 := (k9 _ (show w.heap.size + 1 ≠ w4.heap.size by omega)).trans u28
  have r9i := ownsRow_keep hr8 (fun g hg => by cases hg; exact k9 gi (by omega))
  have r9n := ownsRow_keep hr8n (fun g hg => by cases hg; exact k9 gn (by omega))
  obtain ⟨c0, c1, c2, c3, c4, cf⟩ := row_cells u8
  have f4 := cf 4
  clear cf
  obtain ⟨v0, v1, v2, v3, v4, -⟩ := row_cells t59
  obtain ⟨z0, z1, z2, z3, z4, zf⟩ := row_cells t29
  have g0 := zf 0; have g1 := zf 1; have g2 := zf 2; have g3 := zf 3; have g4 := zf 4
  clear zf
  replace u8 := hid_of u8; replace t29 := hid_of t29; replace B9 := hid_of B9; replace s9 := hid_of s9; replace s8 := hid_of s8; replace r9i := hid_of r9i; replace r9n := hid_of r9n
  clear hr8 hr8n k9 u28 t59 B8 hbut8 hgn1 hgi1 hsz1 hne1 s61 s71
  go_wp2_with (rw [hW9.out])
  have hr := put5_cells t29.out (.int .i64 6) (.int .i64 0) (.string ⟨#[]⟩) (.slice (some ⟨gn, 0, none⟩) (n - 1) (n + 1)) (.slice (some ⟨gi, 0, none⟩) (n - 1) (n + 1))
  have q0 := hr 0; have q1 := hr 1; have q2 := hr 2; have q3 := hr 3; have q4 := hr 4
  clear hr
  refine bodyPost_ret (v := .agg #[.int .i64 6, .int .i64 0, .string ⟨#[]⟩, .slice (some ⟨gn, 0, none⟩) (n - 1) (n + 1), .slice (some ⟨gi, 0, none⟩) (n - 1) (n + 1)]) (by simp [results, Try.results33, go_sem, q0, q1, q2, q3, q4]) rfl ?_
  clear q0 q1 q2 q3 q4 z0 z1 z2 z3 z4 g0 g1 g2 g3 g4 v0 v1 v2 v3 v4 c0 c1 c2 c3 c4 f4
  have hgn1 := hgn.out; have hgi1 := hgi.out; have hsz1 := hsz.out; have s91 := s9.out; have s81 := s8.out
  have hBf : Below w.heap.size w (put5 W9 (w.heap.size + 1) (.int .i64 6) (.int .i64 0) (.string ⟨#[]⟩) (.slice (some ⟨gn, 0, none⟩) (n - 1) (n + 1)) (.slice (some ⟨gi, 0, none⟩) (n - 1) (n + 1))) := B9.out.trans (put5_below (by omega) _ _ _ _ _)
  refine ⟨hBf, five 6 0 ⟨#[]⟩ (.slice (some ⟨gn, 0, none⟩) (n - 1) (n + 1)) (.slice (some ⟨gi, 0, none⟩) (n - 1) (n + 1)), _, _, _, _, _, _, _, _, _, rfl, rfl, ?_⟩
  have hli : (its.eraseIdx m).length = n - 1 := erase_len hn hm
  have hln : (ns.eraseIdx m).length = n - 1 := erase_len hns hm
  have rfi := ownsRow_keep (w' := put5 W9 (w.heap.size + 1) (.int .i64 6) (.int .i64 0) (.string ⟨#[]⟩) (.slice (some ⟨gn, 0, none⟩) (n - 1) (n + 1)) (.slice (some ⟨gi, 0, none⟩) (n - 1) (n + 1))) (ownsRow_lo r9i.out (show w.heap.size ≤ w.heap.size + 1 + 1 by omega)) (fun g hg => by cases hg; exact put5_far _ _ _ _ _ (show gi ≠ w.heap.size + 1 by omega))
  have rfn := ownsRow_keep (w' := put5 W9 (w.heap.size + 1) (.int .i64 6) (.int .i64 0) (.string ⟨#[]⟩) (.slice (some ⟨gn, 0, none⟩) (n - 1) (n + 1)) (.slice (some ⟨gi, 0, none⟩) (n - 1) (n + 1))) (ownsRow_lo r9n.out (show w.heap.size ≤ w.heap.size + 1 + 1 by omega)) (fun g hg => by cases hg; exact put5_far _ _ _ _ _ (show gn ≠ w.heap.size + 1 by omega))
  rw [strs_erase] at rfn
  have hfin := with_fin (k := 6) (ns := ns.eraseIdx m) (its := its.eraseIdx m) (nm := .slice (some ⟨gn, 0, none⟩) (n - 1) (n + 1)) (gi := gi) (ci := n + 1) h0.out hS.out hBf (by
    rw [hli]
    exact rfi) (by
    rw [← hln] at rfn ⊢
    exact seenR_own rfn) (fun W' hk hs ha => (hI.out.mono hk hs).erase m)
  rw [hli] at hfin
  exact hfin
end Go.Proofs.Ythebilggokpciaa
