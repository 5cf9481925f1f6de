import Derived.Test.YtgigikcopedoeaaGreatLD
import Derived.Test.YtgigikcopedoeaaGreatLB
/-! The candidates of a key: a list gives its place to its items. -/
namespace Go.Proofs.YtgigikcopedoeaaGreat.Tree
open Go Go.RowKit

def candT (u : Tr) : List Tr := if u.kind = 5 ∧ u.items ≠ [] then u.items else [u]
def candL (l : List Tr) : List Tr := l.flatMap candT
theorem candL_step {l : List Tr} {q : Nat} {u : Tr} (h : l[q]? = some u) : candL (l.take (q + 1)) = candL (l.take q) ++ candT u := by
  unfold candL
  rw [List.take_add_one, h, List.flatMap_append]
  simp
theorem candT_list {u : Tr} (h5 : u.kind = 5) (h : u.items ≠ []) : candT u = u.items := by unfold candT; rw [if_pos ⟨h5, h⟩]
theorem candT_self {u : Tr} (h : ¬ (u.kind = 5 ∧ u.items ≠ [])) : candT u = [u] := by unfold candT; rw [if_neg h]
/-- The cells of items that lie one behind the other. -/
theorem VRepL.flat {W : World} {b : Nat} : (its : List Tr) → (o : Nat) → VRepL W b o its → ∃ zs, ItemsRep W its zs ∧ zs.length = its.length * 5 ∧ CellsAt W b o zs ∧ ∀ u ∈ zs, u.oneCell' = true
  | [], o, _ => ⟨[], by unfold ItemsRep; rfl, rfl, (fun j u h => by simp at h), (fun u h => by cases h)⟩
  | t :: ts, o, h => by
    unfold VRepL at h
    obtain ⟨cs, h1, h2, h3⟩ := h
    obtain ⟨zs, k1, k2, k3, k4⟩ := VRepL.flat ts (o + 5) h3
    obtain ⟨k, x, s, an, ln, cn, ai, li, ci, rfl⟩ := vrep_five h2
    refine ⟨five k x s (.slice an ln cn) (.slice ai li ci) ++ zs, by unfold ItemsRep; exact ⟨_, zs, rfl, rfl, h2, k1⟩, by rw [List.length_append, k2, List.length_cons]; show 5 + ts.length * 5 = _; omega, fun j u hj => ?_, fun u hu => ?_⟩
    · rcases Nat.lt_or_ge j 5 with hj5 | hj5
      · rw [List.getElem?_append_left (show j < 5 from hj5)] at hj
        exact h1 j u hj
      · rw [List.getElem?_append_right (show 5 ≤ j from hj5)] at hj
        have := k3 (j - 5) u hj
        rwa [show o + 5 + (j - 5) = o + j by omega] at this
    · rcases List.mem_append.1 hu with h | h
      · exact five_one _ _ _ _ _ _ _ _ _ u h
      · exact k4 u h
theorem ItemsRep.keepW {W W' : World} (hb : Below W.heap.size W W') : {ts : List Tr} → {xs : List Value} → ItemsRep W ts xs → ItemsRep W' ts xs
  | [], xs, h => by unfold ItemsRep at *; exact h
  | t :: ts, xs, h => by
    unfold ItemsRep at *
    obtain ⟨c1, r, e, h1, h2, h3⟩ := h
    exact ⟨c1, r, e, h1, VRep.keep hb _ _ h2, ItemsRep.keepW hb h3⟩
/-- A row whose items are read in w. -/
theorem row_list {w W : World} {lo : Nat} {a : Option Addr} {c n : Nat} {ts : List Tr} {xs : List Value} (hrow : W.ownsRow lo 25 5 (.slice a n c) n xs) (hI : ItemsRep w ts xs) (hn : ts.length = n) (hb : Below w.heap.size w W) : ListAt W a c ts := by
  rcases hrow.2 with ⟨e, h0⟩ | ⟨g, cap, cur, e, hg, hh, hc, hm, hs, ht⟩
  · cases e
    have : ts = [] := List.eq_nil_of_length_eq_zero (by omega)
    subst this
    exact ⟨⟨Nat.le_refl _, by omega⟩, .inl rfl⟩
  · obtain ⟨rfl, -, rfl⟩ : a = _ ∧ n = n ∧ c = cap := by simpa using e
    refine ⟨⟨by omega, by unfold maxLen at hm; omega⟩, .inr ⟨g, 0, rfl, (Array.getElem?_eq_some_iff.1 hh).1, ItemsRep.list ts xs 0 (hI.keepW hb) (fun j u hj => ?_)⟩⟩
    rw [Nat.zero_add]
    have hlt := (List.getElem?_eq_some_iff.1 hj).1
    rw [← ht, List.getElem?_take_of_lt (by rw [hrow.1] at hlt; exact hlt), Array.getElem?_toList] at hj
    simp [World.cell?, hh, hj]
theorem ItemsRep.at5 {W : World} : (ts : List Tr) → (xs : List Value) → (q : Nat) → (u : Tr) → ItemsRep W ts xs → ts[q]? = some u → ∃ cs, cs.length = 5 ∧ VRep W u cs ∧ ∀ j v, cs[j]? = some v → xs[q * 5 + j]? = some v
  | [], xs, q, u, _, hu => by simp at hu
  | t :: ts, xs, 0, u, h, hu => by
    unfold ItemsRep at h
    obtain ⟨c1, r, e, h1, h2, h3⟩ := h
    simp at hu
    subst hu e
    refine ⟨c1, h1, h2, fun j v hj => ?_⟩
    rw [Nat.zero_mul, Nat.zero_add, List.getElem?_append_left (List.getElem?_eq_some_iff.1 hj).1]
    exact hj
  | t :: ts, xs, q + 1, u, h, hu => by
    unfold ItemsRep at h
    obtain ⟨c1, r, e, h1, h2, h3⟩ := h
    subst e
    obtain ⟨cs, k1, k2, k3⟩ := ItemsRep.at5 ts r q u h3 (by simpa using hu)
    refine ⟨cs, k1, k2, fun j v hj => ?_⟩
    rw [List.getElem?_append_right (by omega), h1, show (q + 1) * 5 + j - 5 = q * 5 + j by omega]
    exact k3 j v hj
/-- A list in memory whose values are read in another world. -/
def ListIn (W0 w : World) (a : Option Addr) (c : Nat) (its : List Tr) : Prop := (its.length ≤ c ∧ c ≤ 9223372036854775807) ∧ ∀ q u, its[q]? = some u → ∃ b o k x s an ln cn ai li ci, a = some ⟨b, o, none⟩ ∧ b < w.heap.size ∧ CellsAt w b (o + q * 5) (five k x s (.slice an ln cn) (.slice ai li ci)) ∧ VRep W0 u (five k x s (.slice an ln cn) (.slice ai li ci))
theorem ListIn.keep {W0 w w' : World} {a : Option Addr} {c : Nat} {its : List Tr} (h : ListIn W0 w a c its) (hb : Below w.heap.size w w') : ListIn W0 w' a c its := ⟨h.1, fun q u hu => by
  obtain ⟨b, o, k, x, s, an, ln, cn, ai, li, ci, e, h1, h2, h3⟩ := h.2 q u hu
  exact ⟨b, o, k, x, s, an, ln, cn, ai, li, ci, e, Nat.lt_of_lt_of_le h1 hb.size, fun j v hj => stay hb (h2 j v hj), h3⟩⟩
theorem ListIn.item {W0 w : World} {a : Option Addr} {c : Nat} {its : List Tr} (h : ListIn W0 w a c its) {q : Nat} {u : Tr} (hu : its[q]? = some u) : ∃ b o k x s an ln cn ai li ci, a = some ⟨b, o, none⟩ ∧ b < w.heap.size ∧ CellsAt w b (o + q * 5) (five k x s (.slice an ln cn) (.slice ai li ci)) ∧ VRep W0 u (five k x s (.slice an ln cn) (.slice ai li ci)) := h.2 q u hu
theorem row_in {w W : World} {lo : Nat} {a : Option Addr} {c n : Nat} {ts : List Tr} {xs : List Value} (hrow : W.ownsRow lo 25 5 (.slice a n c) n xs) (hI : ItemsRep w ts xs) (hn : ts.length = n) : ListIn w W a c ts := by
  rcases hrow.2 with ⟨e, h0⟩ | ⟨g, cap, cur, e, hg, hh, hc, hm, hs, ht⟩
  · cases e
    have : ts = [] := List.eq_nil_of_length_eq_zero (by omega)
    subst this
    exact ⟨⟨Nat.le_refl _, by omega⟩, fun q u hu => by simp at hu⟩
  · obtain ⟨rfl, -, rfl⟩ : a = _ ∧ n = n ∧ c = cap := by simpa using e
    refine ⟨⟨by omega, by unfold maxLen at hm; omega⟩, fun q u hu => ?_⟩
    obtain ⟨cs, k1, k2, k3⟩ := hI.at5 ts xs q u hu
    obtain ⟨k, x, s, an, ln, cn, ai, li, ci, rfl⟩ := vrep_five k2
    refine ⟨g, 0, k, x, s, an, ln, cn, ai, li, ci, rfl, (Array.getElem?_eq_some_iff.1 hh).1, fun j v hj => ?_, k2⟩
    have hj := k3 j v hj
    rw [Nat.zero_add]
    have hlt := (List.getElem?_eq_some_iff.1 hj).1
    rw [← ht, List.getElem?_take_of_lt (by rw [hrow.1] at hlt; exact hlt), Array.getElem?_toList] at hj
    simp [World.cell?, hh, hj]
theorem ListIn.list {W0 w : World} {a : Option Addr} {c : Nat} {its : List Tr} (h : ListIn W0 w a c its) (hb : Below W0.heap.size W0 w) : ListAt w a c its := by
  refine ⟨h.1, ?_⟩
  rcases Nat.eq_zero_or_pos its.length with h0 | h0
  · exact .inl (List.eq_nil_of_length_eq_zero h0)
  · obtain ⟨b, o, _, _, _, _, _, _, _, _, _, e, hl, -, -⟩ := h.2 0 its[0] (List.getElem?_eq_getElem h0)
    refine .inr ⟨b, o, e, hl, ?_⟩
    have : ∀ (l : List Tr) (p : Nat), (∀ q u, l[q]? = some u → its[p + q]? = some u) → VRepL w b (o + p * 5) l := by
      intro l
      induction l with
      | nil => intro p _; unfold VRepL; trivial
      | cons t ts ih =>
        intro p hp
        obtain ⟨b', o', k, x, s, an, ln, cn, ai, li, ci, e', -, h2, h3⟩ := h.2 p t (by simpa using hp 0 t rfl)
        rw [e] at e'
        obtain ⟨rfl, rfl⟩ : b = b' ∧ o = o' := by simpa using e'
        unfold VRepL
        refine ⟨_, h2, VRep.keep hb _ _ h3, ?_⟩
        have := ih (p + 1) (fun q u hq => by have := hp (q + 1) u (by simpa using hq); rwa [show p + (q + 1) = p + 1 + q by omega] at this)
        rwa [show o + (p + 1) * 5 = o + p * 5 + 5 by omega] at this
    simpa using this its 0 (fun q u hq => by simpa using hq)
theorem vrep_items {W : World} {u : Tr} {k x : Int} {s : ByteArray} {an : Option Addr} {ln cn : Nat} {ai : Option Addr} {li ci : Nat} (h : VRep W u (five k x s (.slice an ln cn) (.slice ai li ci))) : u.kind = k ∧ u.items.length = li ∧ (u.items = [] ∨ ∃ b o, ai = some ⟨b, o, none⟩ ∧ b < W.heap.size ∧ VRepL W b o u.items) := by
  cases u with
  | node k0 x0 s0 ns its =>
    unfold VRep at h
    obtain ⟨nm, a, c, e, h2, h3, h4⟩ := h
    unfold five at e
    simp at e
    obtain ⟨rfl, rfl, rfl, rfl, rfl, rfl, rfl⟩ := e
    exact ⟨rfl, rfl, h4⟩
set_option maxHeartbeats 4000000 in
set_option maxRecDepth 100000 in
theorem laid_nil (a : Option Addr) (c n : Nat) (vs : List Tr) (W0 w : World) (hW : Below W0.heap.size W0 w) (hn : vs.length = n) (hV : ListIn W0 w a c vs) (hB : (candL vs).length ≤ 1000000000) :
    Calls Tryz.prog 46 #[.slice none 0 0, .slice a n c] w fun e w' => ∃ a' c', e = .returned (.slice a' (candL vs).length c') ∧ ListIn W0 w' a' c' (candL vs) ∧ Below w.heap.size w w' := by
  obtain ⟨i5, hi, hz0, hz1, hz2⟩ := info_parts F25
  have n1 : n ≤ 9223372036854775807 := by have := hV.1.1; have := hV.1.2; omega
  have n0 : (0 : Int) ≤ (n : Int) := by omega
  have hcl : ∀ q, (candL (vs.take q)).length ≤ 1000000000 := fun q => by
    have : (candL vs).length = (candL (vs.take q)).length + (candL (vs.drop q)).length := by
      unfold candL
      rw [← List.length_append, ← List.flatMap_append, List.take_append_drop]
    omega
  replace hW := hid_e hW
  replace hcl := hid_e hcl
  replace hn := hid_e hn
  replace hV := hid_e hV
  replace hB := hid_e hB
  go_enter Tryz.func46, Tryz.ntmps46
  go_wp2_with fail
  go_loopw [0, 6, 9] (fun fv _ iv wr => ∃ (q m : Nat) (ao : Option Addr) (co : Nat) (xs : List Value), fv = .slice ao m co ∧ iv = .int .i64 q ∧ q ≤ n ∧ Hid ((candL (vs.take q)).length = m) ∧ Hid (wr.ownsRow w.heap.size 25 5 (.slice ao m co) m xs) ∧ Hid (ItemsRep W0 (candL (vs.take q)) xs) ∧ Hid (Below w.heap.size w wr)) (fun _ _ iv _ => n - (intOf iv).toNat)
  case atStart => exact ⟨0, 0, none, 0, [], rfl, rfl, Nat.zero_le _, rfl, World.ownsRow_nil _ _ _ _, (by show ItemsRep W0 [] []; unfold ItemsRep; rfl), Below.refl _ _⟩
  case round =>
    obtain ⟨q, m, ao, co, xs, rfl, rfl, hq, hm, hrow, hI, hb⟩ := hrel
    by_cases hlt : q < n
    · have q1 : (q : Int) < (n : Int) := by omega
      have q0 : (0 : Int) ≤ (q : Int) := by omega
      have q2 : (q : Int) + 1 ≤ 9223372036854775807 := by omega
      obtain ⟨u, hu⟩ : ∃ u, Hid (vs[q]? = some u) := ⟨vs[q]'(by rw [hn.out]; omega), List.getElem?_eq_getElem (by rw [hn.out]; omega)⟩
      obtain ⟨b, o, k1, x1, s1, an1, ln1, cn1, ai1, li1, ci1, ea, hlb, hc1, hv1⟩ := hV.out.item hu.out
      subst ea
      obtain ⟨v0, v1, v2, v3, v4⟩ := cells5 hc1
      have x10 := stay hb.out v0
      have x11 := stay hb.out v1
      have x12 := stay hb.out v2
      have x13 := stay hb.out v3
      have x14 := stay hb.out v4
      obtain ⟨hk, hli, hits⟩ := vrep_items hv1
      have hst := hid_e (candL_step hu.out)
      have hmx : Hid ((candL (vs.take q)).length + (candT u).length ≤ 1000000000) := by rw [← List.length_append, ← hst.out]; exact hcl.out _
      replace hv1 := hid_e hv1
      have hbB : Hid (Below w.heap.size w (wr.alloc (.cells #[.int .i64 k1, .int .i64 x1, .string s1, .slice an1 ln1 cn1, .slice ai1 li1 ci1] 25))) := hb.out.alloc hb.out.size _
      have hbs : Hid (w.heap.size ≤ (wr.alloc (.cells #[.int .i64 k1, .int .i64 x1, .string s1, .slice an1 ln1 cn1, .slice ai1 li1 ci1] 25)).heap.size) := hbB.out.size
      clear v0 v1 v2 v3 v4 hc1 hlb
      by_cases hcase : k1 = 5 ∧ 0 < li1
      · obtain ⟨rfl, hl0⟩ := hcase
        have hl0' : (0 : Int) < (li1 : Int) := by omega
        have hne : u.items ≠ [] := fun e => by rw [e] at hli; simp at hli; omega
        obtain ⟨bi, oi, rfl, hbi, hvl⟩ := hits.resolve_left hne
        obtain ⟨zs, z1, z2, z3, z4⟩ := VRepL.flat _ _ hvl
        rw [hli] at z2
        have ec : Hid (candT u = u.items) := candT_list hk hne
        rw [ec.out, hli, hm.out] at hmx
        have hrow2 : Hid ((wr.alloc (.cells #[.int .i64 5, .int .i64 x1, .string s1, .slice an1 ln1 cn1, .slice (some ⟨bi, oi, none⟩) li1 ci1] 25)).ownsRow w.heap.size 25 5 (.slice ao m co) m xs) := hrow.out.alloc _
        have hz3 : Hid (∀ j u, zs[j]? = some u → (wr.alloc (.cells #[.int .i64 5, .int .i64 x1, .string s1, .slice an1 ln1 cn1, .slice (some ⟨bi, oi, none⟩) li1 ci1] 25)).cell? ((⟨bi, oi, none⟩ : Addr).add j) = some u) := fun j u hj => by rw [add_off]; exact stay hbB.out (stay hW.out (z3 j u hj))
        have hmb : m + li1 ≤ 1000000000 := hmx.out
        replace z1 := hid_e z1
        replace z2 := hid_e z2
        replace z4 := hid_e z4
        clear hits hvl z3
        go_wp2_with (at_builtin; refine wpList_append_lies _ rfl _ _ 23 rfl w.heap.size 25 i5 _ 5 80 Tryz.underlying23 hi hz0 hz1 hz2 rfl (by decide) (.slice ao m co) m xs rfl hrow2.out ⟨bi, oi, none⟩ li1 _ zs rfl z2.out hz3.out z4.out hl0 (by unfold maxLen; omega) (by omega) hbs.out _ rfl ?_; intro g4 c4 w4 hown4 hgrow4 hat4 hlt4; replace hown4 := hid_e hown4; replace hgrow4 := hid_e hgrow4; clear hat4 hlt4)
        have hI' : Hid (ItemsRep W0 (candL (vs.take (q + 1))) (xs ++ zs)) := by rw [hst.out, ec.out]; exact ItemsRep.app hI.out z1.out
        have hb' : Hid (Below w.heap.size w w4) := hbB.out.trans (grown_below hgrow4.out hbs.out (fun g hg => (ownsRow_ge hrow.out hg).1))
        exact ⟨⟨q + 1, m + li1, _, _, _, rfl, by go_num, by omega, by show _ = _; rw [hst.out, List.length_append, ec.out, hli, hm.out], hown4, hI', hb'⟩, by simp [intOf]; omega⟩
      · have ec : Hid (candT u = [u]) := candT_self (fun h => hcase ⟨by rw [← hk]; exact h.1, by rw [← hli]; exact List.length_pos_iff.2 h.2⟩)
        rw [ec.out, hm.out, List.length_singleton] at hmx
        have hmb : m + 1 ≤ 1000000000 := hmx.out
        have hrow2 : Hid (((wr.alloc (.cells #[.int .i64 k1, .int .i64 x1, .string s1, .slice an1 ln1 cn1, .slice ai1 li1 ci1] 25)).alloc (.cells #[.int .i64 k1, .int .i64 x1, .string s1, .slice an1 ln1 cn1, .slice ai1 li1 ci1] 25)).ownsRow w.heap.size 25 5 (.slice ao m co) m xs) := (hrow.out.alloc _).alloc _
        have hbB2 : Hid (Below w.heap.size w ((wr.alloc (.cells #[.int .i64 k1, .int .i64 x1, .string s1, .slice an1 ln1 cn1, .slice ai1 li1 ci1] 25)).alloc (.cells #[.int .i64 k1, .int .i64 x1, .string s1, .slice an1 ln1 cn1, .slice ai1 li1 ci1] 25))) := hbB.out.alloc hbB.out.size _
        have hI' : Hid (ItemsRep W0 (candL (vs.take (q + 1))) (xs ++ five k1 x1 s1 (.slice an1 ln1 cn1) (.slice ai1 li1 ci1))) := by rw [hst.out, ec.out]; exact ItemsRep.snoc rfl hv1.out hI.out
        have fin : Hid (∀ g4 c4 w4, w4.ownsRow w.heap.size 25 5 (.slice (some ⟨g4, 0, none⟩) (m + 1) c4) (m + 1) (xs ++ [.int .i64 k1, .int .i64 x1, .string s1, .slice an1 ln1 cn1, .slice ai1 li1 ci1]) → ((wr.alloc (.cells #[.int .i64 k1, .int .i64 x1, .string s1, .slice an1 ln1 cn1, .slice ai1 li1 ci1] 25)).alloc (.cells #[.int .i64 k1, .int .i64 x1, .string s1, .slice an1 ln1 cn1, .slice ai1 li1 ci1] 25)).grownBy w4 (Value.slice ao m co).ownBlock → Below w.heap.size w w4) := fun g4 c4 w4 _ hg => hbB2.out.trans (grown_below hg hbB2.out.size (fun g hg => (ownsRow_ge hrow.out hg).1))
        have hnew : Hid (w.heap.size ≤ ((wr.alloc (.cells #[.int .i64 k1, .int .i64 x1, .string s1, .slice an1 ln1 cn1, .slice ai1 li1 ci1] 25)).alloc (.cells #[.int .i64 k1, .int .i64 x1, .string s1, .slice an1 ln1 cn1, .slice ai1 li1 ci1] 25)).heap.size) := hbB2.out.size
        have hnews : Hid (∀ j u, ([.int .i64 k1, .int .i64 x1, .string s1, .slice an1 ln1 cn1, .slice ai1 li1 ci1] : List Value)[j]? = some u → ((wr.alloc (.cells #[.int .i64 k1, .int .i64 x1, .string s1, .slice an1 ln1 cn1, .slice ai1 li1 ci1] 25)).alloc (.cells #[.int .i64 k1, .int .i64 x1, .string s1, .slice an1 ln1 cn1, .slice ai1 li1 ci1] 25)).cell? ((⟨wr.heap.size + 1, 0, none⟩ : Addr).add j) = some u) := by have h := heap_alloc_new (wr.alloc (.cells #[.int .i64 k1, .int .i64 x1, .string s1, .slice an1 ln1 cn1, .slice ai1 li1 ci1] 25)) (.cells #[.int .i64 k1, .int .i64 x1, .string s1, .slice an1 ln1 cn1, .slice ai1 li1 ci1] 25); rw [World.size_alloc] at h; exact World.news_of_block h
        have hones : Hid (∀ u ∈ ([.int .i64 k1, .int .i64 x1, .string s1, .slice an1 ln1 cn1, .slice ai1 li1 ci1] : List Value), u.oneCell' = true) := five_one _ _ _ _ _ _ _ _ _
        have hlen : Hid ((candL (vs.take (q + 1))).length = m + 1) := by show _ = _; rw [hst.out, List.length_append, ec.out, hm.out]; rfl
        clear hits hbB hst
        by_cases h5 : k1 = 5
        · subst h5
          obtain rfl : li1 = 0 := by rcases Nat.eq_zero_or_pos li1 with h | h; exact h; exact absurd ⟨rfl, h⟩ hcase
          clear hcase hli
          go_wp2_with (at_builtin; refine wpList_append_lies _ rfl _ _ 23 rfl w.heap.size 25 i5 _ 5 80 Tryz.underlying23 hi hz0 hz1 hz2 rfl (by decide) (.slice ao m co) m xs rfl hrow2.out _ 1 1 [.int .i64 5, .int .i64 x1, .string s1, .slice an1 ln1 cn1, .slice ai1 0 ci1] rfl rfl hnews.out hones.out (by decide) (by unfold maxLen; omega) (by omega) hnew.out _ rfl ?_; intro g4 c4 w4 hown4 hgrow4 hat4 hlt4; have hb4 := hid_e (fin.out g4 c4 w4 hown4 hgrow4); replace hown4 := hid_e hown4; clear hgrow4 hat4 hlt4)
          exact ⟨⟨q + 1, m + 1, _, _, _, rfl, by go_num, by omega, hlen, hown4, hI', hb4⟩, by simp [intOf]; omega⟩
        · clear hcase hli hk
          go_wp2_with (at_builtin; refine wpList_append_lies _ rfl _ _ 23 rfl w.heap.size 25 i5 _ 5 80 Tryz.underlying23 hi hz0 hz1 hz2 rfl (by decide) (.slice ao m co) m xs rfl hrow2.out _ 1 1 [.int .i64 k1, .int .i64 x1, .string s1, .slice an1 ln1 cn1, .slice ai1 li1 ci1] rfl rfl hnews.out hones.out (by decide) (by unfold maxLen; omega) (by omega) hnew.out _ rfl ?_; intro g4 c4 w4 hown4 hgrow4 hat4 hlt4; have hb4 := hid_e (fin.out g4 c4 w4 hown4 hgrow4); replace hown4 := hid_e hown4; clear hgrow4 hat4 hlt4)
          exact ⟨⟨q + 1, m + 1, _, _, _, rfl, by go_num, by omega, hlen, hown4, hI', hb4⟩, by simp [intOf]; omega⟩
    · obtain rfl : q = n := by omega
      have q1 : ¬ (q : Int) < (q : Int) := by omega
      rw [List.take_of_length_le (by rw [hn.out]; omega)] at hm hI
      have hfin : Hid (ListIn W0 wr ao co (candL vs)) := row_in hrow.out hI.out hm.out
      have hm' := hm.out
      subst hm'
      go_wp2_with fail
      go_ret
      exact ⟨_, _, rfl, hfin.out, hb.out⟩
end Go.Proofs.YtgigikcopedoeaaGreat.Tree
