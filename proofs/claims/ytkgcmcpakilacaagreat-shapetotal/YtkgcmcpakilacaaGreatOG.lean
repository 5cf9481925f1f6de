import Derived.Test.YtkgcmcpakilacaaGreatLO
import Derived.Test.YtkgcmcpakilacaaGreatXE
import Derived.Deep.RegionHeld3
import Derived.Laws.MakeOwn
import Derived.Test.YtkgcmcpakilacaaGreatYA
/-! Documents by their keys: one total order. -/
namespace Go.Proofs.YtkgcmcpakilacaaGreat.Tree
open Go Go.RowKit Go.Stab

/-- A total preorder, told by a comparison. -/
structure Pre {α : Type} (c : α → α → Int) : Prop where
  anti : ∀ x y, c x y = - c y x
  tr : ∀ x y z, c x y ≤ 0 → c y z ≤ 0 → c x z ≤ 0
theorem Pre.flip {α : Type} {c : α → α → Int} (h : Pre c) : Pre (fun x y => - c x y) where
  anti x y := by have := h.anti x y; show - c x y = - - c y x; omega
  tr x y z h1 h2 := by
    have a1 := h.anti x y; have a2 := h.anti y z; have a3 := h.anti x z
    have h1 : - c x y ≤ 0 := h1
    have h2 : - c y z ≤ 0 := h2
    have := h.tr z y x (by omega) (by omega)
    show - c x z ≤ 0
    omega
theorem Pre.both {α : Type} {c d : α → α → Int} (hc : Pre c) (hd : Pre d) : Pre (fun x y => if c x y ≠ 0 then c x y else d x y) where
  anti x y := by
    have a1 := hc.anti x y; have a2 := hd.anti x y
    show (if c x y ≠ 0 then c x y else d x y) = - (if c y x ≠ 0 then c y x else d y x)
    by_cases h : c x y = 0
    · have h' : c y x = 0 := by omega
      rw [if_neg (by omega), if_neg (by omega)]; exact a2
    · have h' : c y x ≠ 0 := by omega
      rw [if_pos h, if_pos h']; exact a1
  tr x y z h1 h2 := by
    have h1 : (if c x y ≠ 0 then c x y else d x y) ≤ 0 := h1
    have h2 : (if c y z ≠ 0 then c y z else d y z) ≤ 0 := h2
    show (if c x z ≠ 0 then c x z else d x z) ≤ 0
    have a1 := hc.anti x y; have a2 := hc.anti y z; have a3 := hc.anti x z
    have b1 : c x y ≤ 0 := by by_cases h : c x y = 0; omega; rw [if_pos h] at h1; exact h1
    have b2 : c y z ≤ 0 := by by_cases h : c y z = 0; omega; rw [if_pos h] at h2; exact h2
    have b3 := hc.tr x y z b1 b2
    by_cases h : c x z = 0
    · have e1 : c x y = 0 := by have := hc.tr y z x b2 (by omega); omega
      have e2 : c y z = 0 := by have := hc.tr z x y (by omega) b1; omega
      rw [if_neg (by omega)] at h1 h2 ⊢
      exact hd.tr x y z h1 h2
    · rw [if_pos h]; exact b3
theorem Pre.swo {α : Type} {c : α → α → Int} (h : Pre c) : Swo (fun x y => decide (c x y < 0)) where
  irr x := by have := h.anti x x; exact decide_eq_false (by omega)
  tr x y z h1 h2 := by
    have a1 := of_decide_eq_true h1
    have a2 := of_decide_eq_true h2
    refine decide_eq_true ?_
    have h3 := h.tr x y z (by omega) (by omega)
    rcases Int.lt_or_le (c x z) 0 with h' | h'
    · exact h'
    · have e1 := h.anti x z
      have e2 := h.anti x y
      have h4 := h.tr y z x (by omega) (by omega)
      omega
  neg x y z h1 h2 := by
    have a1 := of_decide_eq_false h1
    have a2 := of_decide_eq_false h2
    have e1 := h.anti x y
    have e2 := h.anti y z
    have e3 := h.anti x z
    have := h.tr z y x (by omega) (by omega)
    exact decide_eq_false (by omega)
/-- The comparison of two trees by the turns, z where they leave them alike. -/
noncomputable def cmpF (z : Int) (t u : Tr) : List Turn → Int
  | [] => z
  | (l, fl) :: r => if cmpT (keyT (sgB fl) t l) (keyT (sgB fl) u l) * sgB fl ≠ 0 then cmpT (keyT (sgB fl) t l) (keyT (sgB fl) u l) * sgB fl else cmpF z t u r
noncomputable def cnK (ts : List Turn) (x y : Dc) : Int := cmpF (cmpS x.id y.id) x.t y.t ts
noncomputable def ltK' (ts : List Turn) (x y : Dc) : Bool := decide (cnK ts x y < 0)
theorem preK : (ts : List Turn) → Pre (cnK ts)
  | [] => ⟨fun x y => cmpS_anti x.id y.id, fun x y z h1 h2 => cmpS_trans x.id y.id z.id h1 h2⟩
  | (l, fl) :: r => by
    have ih := preK r
    have hk : Pre (fun x y : Dc => cmpT (keyT (sgB fl) x.t l) (keyT (sgB fl) y.t l)) := ⟨fun x y => cmpT_anti _ _, fun x y z h1 h2 => cmpT_trans _ _ _ h1 h2⟩
    have hk2 : Pre (fun x y : Dc => cmpT (keyT (sgB fl) x.t l) (keyT (sgB fl) y.t l) * sgB fl) := by
      cases fl with
      | false => simpa [sgB] using hk
      | true => simpa [sgB] using hk.flip
    exact hk2.both ih
theorem swoK (ts : List Turn) : Swo (ltK' ts) := (preK ts).swo
theorem sgB_range (fl : Bool) : sgB fl = 1 ∨ sgB fl = -1 := by cases fl <;> simp [sgB]
theorem cmpF_range (z : Int) (hz : z = -1 ∨ z = 0 ∨ z = 1) (t u : Tr) : (ts : List Turn) → cmpF z t u ts = -1 ∨ cmpF z t u ts = 0 ∨ cmpF z t u ts = 1
  | [] => hz
  | (l, fl) :: r => by
    unfold cmpF
    split
    · rcases cmpT_range (keyT (sgB fl) t l) (keyT (sgB fl) u l) with h | h | h <;> rcases sgB_range fl with g | g <;> rw [h, g] <;> simp
    · exact cmpF_range z hz t u r
theorem cnK_range (ts : List Turn) (x y : Dc) : cnK ts x y = -1 ∨ cnK ts x y = 0 ∨ cnK ts x y = 1 := cmpF_range _ (cmpS_range _ _) _ _ ts
theorem cmpF_ne {z : Int} {t u : Tr} {l : List ByteArray} {fl : Bool} {r : List Turn} (h : cmpT (keyT (sgB fl) t l) (keyT (sgB fl) u l) ≠ 0) : cmpF z t u ((l, fl) :: r) = cmpT (keyT (sgB fl) t l) (keyT (sgB fl) u l) * sgB fl := by
  unfold cmpF
  rw [if_pos]
  intro e
  rcases Int.mul_eq_zero.1 e with e | e
  · exact h e
  · rcases sgB_range fl with g | g <;> omega
theorem cmpF_eq {z : Int} {t u : Tr} {l : List ByteArray} {fl : Bool} {r : List Turn} (h : cmpT (keyT (sgB fl) t l) (keyT (sgB fl) u l) = 0) : cmpF z t u ((l, fl) :: r) = cmpF z t u r := by
  conv => lhs; unfold cmpF
  rw [h]
  simp
theorem cmpF_id {z : Int} {t u : Tr} {ts : List Turn} (h : cmpF z t u ts = 0) : z = 0 := by
  induction ts with
  | nil => exact h
  | cons p r ih =>
    obtain ⟨l, fl⟩ := p
    unfold cmpF at h
    split at h
    · contradiction
    · exact ih h
/-- The keys of a tree. -/
noncomputable def keysT (ts : List Turn) (t : Tr) : List Tr := ts.map (fun p => keyT (sgB p.2) t p.1)
theorem keysT_len (ts : List Turn) (t : Tr) : (keysT ts t).length = ts.length := by simp [keysT]
theorem keysT_at {ts : List Turn} {t : Tr} {q : Nat} {l : List ByteArray} {fl : Bool} (h : ts[q]? = some (l, fl)) : (keysT ts t)[q]? = some (keyT (sgB fl) t l) := by simp [keysT, h]
theorem keyAt_in {ts : List Turn} {t : Tr} {q : Nat} {l : List ByteArray} {fl : Bool} (h : ts[q]? = some (l, fl)) : keyAt ts t (q : Int) = keyT (sgB fl) t l := by unfold keyAt; rw [if_neg (by omega), Int.toNat_natCast, h]
theorem drop_turn {ts : List Turn} {q : Nat} {p : Turn} (h : ts[q]? = some p) : ts.drop q = p :: ts.drop (q + 1) := by
  have h1 := (List.getElem?_eq_some_iff.1 h)
  rw [List.drop_eq_getElem_cons h1.1, h1.2]
theorem small_null : SmallT nullT := by unfold nullT SmallT SmallL; simp; decide
theorem key_small {sg : Int} {t : Tr} {l : List ByteArray} (h : SmallT t) : SmallT (keyT sg t l) := by
  unfold keyT keyL
  split
  · rename_i u hu
    exact smallL_iff.1 (candL_small (allF_small _ l t h)) u (List.mem_of_getElem? hu)
  · exact small_null
end Go.Proofs.YtkgcmcpakilacaaGreat.Tree
/-! Key, read in an older world. -/
namespace Go.Proofs.YtkgcmcpakilacaaGreat.Tree
open Go Go.RowKit

set_option maxHeartbeats 4000000 in
set_option maxRecDepth 100000 in
theorem skey_in (ts : List Turn) (i : Int) (sb m co : Nat) (ao : Option Addr) (t : Tr) (k x : Int) (s : ByteArray) (an : Option Addr) (ln cn : Nat) (ai : Option Addr) (li ci : Nat) (W0 w : World) (hW0 : Below W0.heap.size W0 w) (hm : ts.length = m) (hc : W0.cell? ⟨sb, 0, none⟩ = some (.slice ao m co)) (hK : KeysAt .bool W0 ao ts) (hS : ∀ p ∈ ts, p.1.length ≤ 1000 ∧ ∀ s ∈ p.1, s.size ≤ 9223372036854775806) (hV : VRep W0 t (five k x s (.slice an ln cn) (.slice ai li ci))) (hb : partsT t ≤ 1000000) (hT : SmallT t) :
    Calls Tryz.prog 13 #[.pointer (some ⟨sb, 0, none⟩), .agg #[.int .i64 k, .int .i64 x, .string s, .slice an ln cn, .slice ai li ci], .int .i64 i] w fun e w' => ∃ k' x' s' an' ln' cn' ai' li' ci', e = .returned (.agg #[.int .i64 k', .int .i64 x', .string s', .slice an' ln' cn', .slice ai' li' ci']) ∧ VRep W0 (keyAt ts t i) (five k' x' s' (.slice an' ln' cn') (.slice ai' li' ci')) ∧ Below w.heap.size w w' := by
  obtain ⟨X, hX⟩ : ∃ X, Hid ((w.alloc (.cells #[.int .i64 k, .int .i64 x, .string s, .slice an ln cn, .slice ai li ci] 25)).alloc (.cells #[.int .i64 0, .int .i64 0, .string ⟨#[]⟩, .slice none 0 0, .slice none 0 0] 25) = X) := ⟨_, rfl⟩
  have HB : Hid (Below w.heap.size w X) := by rw [← hX.out]; exact ((Below.refl _ w).alloc (Nat.le_refl _) _).alloc (by simp) _
  have n2 : Hid (X.heap[w.heap.size + 1]? = some (.cells #[.int .i64 0, .int .i64 0, .string ⟨#[]⟩, .slice none 0 0, .slice none 0 0] 25)) := by rw [← hX.out]; exact new2 _ _ _
  have n1 : Hid (X.heap[w.heap.size]? = some (.cells #[.int .i64 k, .int .i64 x, .string s, .slice an ln cn, .slice ai li ci] 25)) := by have h := ((Below.refl _ (w.alloc (.cells #[.int .i64 k, .int .i64 x, .string s, .slice an ln cn, .slice ai li ci] 25))).alloc (Nat.le_refl _) (.cells #[.int .i64 0, .int .i64 0, .string ⟨#[]⟩, .slice none 0 0, .slice none 0 0] 25)).block w.heap.size (by simp); rw [hX.out, heap_alloc_new] at h; exact h
  replace hc := stay hW0 hc
  have c1 := stay HB.out hc
  have cnt := hid_e (count_any sb m co ao X c1)
  have hXd : Hid (Below X.heap.size X X.drew) := below_drew (Below.refl _ _)
  have HBd : Hid (Below w.heap.size w X.drew) := below_drew HB.out
  by_cases hin : 0 ≤ i ∧ i < (m : Int)
  · obtain ⟨p, rfl⟩ : ∃ p : Nat, i = (p : Int) := ⟨i.toNat, by omega⟩
    have hpm : p < m := by omega
    obtain ⟨⟨l, fl⟩, hu⟩ : ∃ u, Hid (ts[p]? = some u) := ⟨ts[p]'(by rw [hm]; omega), List.getElem?_eq_getElem (by rw [hm]; omega)⟩
    obtain ⟨g, o, pa, pc, ea, k0, k1, hr⟩ := hK p l fl hu.out
    subst ea
    have hsl := hS (l, fl) (List.mem_of_getElem? hu.out)
    have call := hid_e (turn_key fl t k x s an ln cn ai li ci pa pc l W0 X.drew (hW0.trans (HBd.out.mono hW0.size)) hV hr hsl.2 (Nat.le_trans (show l.length ≤ 1000 from hsl.1) (by decide)) hb hT)
    have hkey : Hid (keyAt ts t (p : Int) = keyT (sgB fl) t l) := by show _ = _; unfold keyAt; rw [if_neg (by omega), Int.toNat_natCast, hu.out]
    rw [hkey.out]
    have x0 := stay HB.out (stay hW0 k0)
    have x1 := stay HB.out (stay hW0 k1)
    obtain ⟨lm, hlm⟩ : ∃ lm, Hid (l.length = lm) := ⟨_, rfl⟩
    obtain ⟨KK, hKK⟩ : ∃ KK, Hid (keyT (sgB fl) t l = KK) := ⟨_, rfl⟩
    rw [hKK.out] at call ⊢
    rw [hlm.out] at call x0
    obtain ⟨y0, y1, y2, y3, y4, -⟩ := row_cells n1.out
    have p0 : ¬ (p : Int) < 0 := by omega
    have p1 : (p : Int) < (m : Int) := by omega
    have p2 : (0 : Int) ≤ (p : Int) := by omega
    have p3 : ¬ (m : Int) ≤ (p : Int) := by omega
    clear hin hV hT hS hK hr hsl k0 k1 hc n1 hb
    go_enter Tryz.func13, Tryz.ntmps13
    go_upto_region 1 with fail
    rw [hX.out]
    go_upto_region 3 with (go_at_call 35; refine cnt.out.mono ?_; rintro e X1 ⟨rfl, rfl⟩)
    go_region_with (go_at_call 36; refine call.out.mono ?_; rintro e Z2 ⟨k2, x2, s2, an2, ln2, cn2, ai2, li2, ci2, rfl, hv2, hb'⟩; have hb2 := hid_e (hXd.out.trans (hb'.mono hXd.out.size)); replace hv2 := hid_e hv2; clear hb' call; have nZ2 := hid_e (block_keep n2.out hb2.out); obtain ⟨r0, r1, r2, r3, r4, rf⟩ := row_cells nZ2.out; have rf0 := rf 0; have rf1 := rf 1; have rf2 := rf 2; have rf3 := rf 3; have rf4 := rf 4; clear rf)
    all_goals
      go_wp2_with fail
      have hr := put5_cells nZ2.out (.int .i64 k2) (.int .i64 x2) (.string s2) (.slice an2 ln2 cn2) (.slice ai2 li2 ci2)
      have q0 := hr 0; have q1 := hr 1; have q2 := hr 2; have q3 := hr 3; have q4 := hr 4
      clear hr
      refine bodyPost_ret (v := .agg #[.int .i64 k2, .int .i64 x2, .string s2, .slice an2 ln2 cn2, .slice ai2 li2 ci2]) (by simp [results, Tryz.results13, go_sem, q0, q1, q2, q3, q4]) rfl ?_
      have hBf := (HB.out.trans (hb2.out.mono HB.out.size)).trans (put5_below (w := Z2) (g := w.heap.size + 1) (B := w.heap.size) (by omega) (.int .i64 k2) (.int .i64 x2) (.string s2) (.slice an2 ln2 cn2) (.slice ai2 li2 ci2))
      exact ⟨k2, x2, s2, an2, ln2, cn2, ai2, li2, ci2, rfl, hv2.out, hBf⟩
  · have hkey : keyAt ts t i = nullT := by
      unfold keyAt
      split
      · rfl
      · rw [List.getElem?_eq_none (by omega)]
    rw [hkey]
    obtain ⟨z0, z1, z2, z3, z4, zf⟩ := row_cells n2.out
    have zf0 := zf 0; have zf1 := zf 1; have zf2 := zf 2; have zf3 := zf 3; have zf4 := zf 4
    have hr5 := put5_cells n2.out (.int .i64 0) (.int .i64 0) (.string ⟨#[]⟩) (.slice none 0 0) (.slice none 0 0)
    have r0 := hid_e (hr5 0); have r1 := hid_e (hr5 1); have r2 := hid_e (hr5 2); have r3 := hid_e (hr5 3); have r4 := hid_e (hr5 4)
    clear hr5 zf hV hT hS hK hc n1 hb
    go_enter Tryz.func13, Tryz.ntmps13
    go_upto_region 1 with fail
    rw [hX.out]
    by_cases hi0 : i < 0
    · clear hin
      go_wp2_with fail
      have r0 := r0.out; have r1 := r1.out; have r2 := r2.out; have r3 := r3.out; have r4 := r4.out
      refine bodyPost_ret (v := .agg #[.int .i64 0, .int .i64 0, .string ⟨#[]⟩, .slice none 0 0, .slice none 0 0]) (by simp [results, Tryz.results13, go_sem, r0, r1, r2, r3, r4]) rfl ?_
      exact ⟨0, 0, ⟨#[]⟩, none, 0, 0, none, 0, 0, rfl, null_rep _, HB.out.trans (put5_below (by omega) _ _ _ _ _)⟩
    · have hge : (m : Int) ≤ i := by omega
      clear hin
      go_wp2_with (go_at_call 35; refine cnt.out.mono ?_; rintro e X1 ⟨rfl, rfl⟩)
      have r0 := r0.out; have r1 := r1.out; have r2 := r2.out; have r3 := r3.out; have r4 := r4.out
      refine bodyPost_ret (v := .agg #[.int .i64 0, .int .i64 0, .string ⟨#[]⟩, .slice none 0 0, .slice none 0 0]) (by simp [results, Tryz.results13, go_sem, r0, r1, r2, r3, r4]) rfl ?_
      exact ⟨0, 0, ⟨#[]⟩, none, 0, 0, none, 0, 0, rfl, null_rep _, HB.out.trans (put5_below (by omega) _ _ _ _ _)⟩
end Go.Proofs.YtkgcmcpakilacaaGreat.Tree
/-! A document with its keys. -/
namespace Go.Proofs.YtkgcmcpakilacaaGreat.Tree
open Go Go.RowKit Go.Stab

theorem make_v (l : Nat) (hc : l * 80 ≤ 281474976710656) (w : World) : ∃ cur : Array Value, (Instr.makeSlice 23 (.int .i64 l) (.int .i64 l)).run Tryz.prog w = .ok (.slice (some ⟨w.heap.size, 0, none⟩) l l) (w.alloc (.cells cur 25)) ∧ cur.size = l * 5 := by
  obtain ⟨i, hi, hz0, hz1, hz2⟩ := info_parts AV
  have := run_make (P := Tryz.prog) w 23 25 i _ Tryz.underlying23 hi hz0 .i64 .i64 l l (by omega) (by omega) (by rw [hz2]; omega) (by omega)
  rw [hz1, Int.toNat_natCast] at this
  exact ⟨_, this, size_madeCells _ _⟩
theorem but_from {b : Nat} {w X W : World} (h0 : Below w.heap.size w X) (h : Sorted.But b X W) (hb : w.heap.size ≤ b) : Below w.heap.size w W := h0.trans ⟨h.os, h.tape, h.output, h.size, fun k hk => h.block k (by have := h0.size; omega) (by omega)⟩
/-- Keys laid side by side, q of them. -/
def KeysIn (W0 : World) (ks : List Tr) (q : Nat) (es : List (List Value)) : Prop := es.length = q ∧ ∀ (i : Nat) (cs : List Value) (u : Tr), es[i]? = some cs → ks[i]? = some u → VRep W0 u cs ∧ ∃ k x s an ln cn ai li ci, cs = five k x s (.slice an ln cn) (.slice ai li ci)
theorem KeysIn.nil (W0 : World) (ks : List Tr) : KeysIn W0 ks 0 [] := ⟨rfl, fun i cs u h => by simp at h⟩
theorem KeysIn.push {W0 : World} {ks : List Tr} {q : Nat} {es : List (List Value)} {u : Tr} {k x : Int} {s : ByteArray} {an : Option Addr} {ln cn : Nat} {ai : Option Addr} {li ci : Nat} (h : KeysIn W0 ks q es) (hu : ks[q]? = some u) (hv : VRep W0 u (five k x s (.slice an ln cn) (.slice ai li ci))) : KeysIn W0 ks (q + 1) (es ++ [five k x s (.slice an ln cn) (.slice ai li ci)]) := by
  refine ⟨by simp [h.1], fun i cs u' hi hu' => ?_⟩
  rcases Nat.lt_or_ge i es.length with h1 | h1
  · rw [List.getElem?_append_left h1] at hi; exact h.2 i cs u' hi hu'
  · have hil := (List.getElem?_eq_some_iff.1 hi).1
    obtain rfl : i = es.length := by simp at hil; omega
    rw [List.getElem?_append_right (Nat.le_refl _), Nat.sub_self] at hi
    have e : five k x s (.slice an ln cn) (.slice ai li ci) = cs := by simpa using hi
    subst e
    rw [h.1, hu] at hu'
    cases hu'
    exact ⟨hv, k, x, s, an, ln, cn, ai, li, ci, rfl⟩
theorem KeysIn.five {W0 : World} {ks : List Tr} {q : Nat} {es : List (List Value)} (h : KeysIn W0 ks q es) (hq : q ≤ ks.length) : ∀ l ∈ es, l.length = 5 := fun l hl => by
  obtain ⟨i, hi⟩ := List.mem_iff_getElem?.1 hl
  have hil := (List.getElem?_eq_some_iff.1 hi).1
  obtain ⟨-, k, x, s, an, ln, cn, ai, li, ci, rfl⟩ := h.2 i l _ hi (List.getElem?_eq_getElem (by have := h.1; omega))
  rfl
theorem listIn_row {W0 W : World} {kb m : Nat} {ks : List Tr} {es : List (List Value)} (hk : KeysIn W0 ks m es) (hl : ks.length = m) (hr : RowL 5 es W kb) (hlt : kb < W.heap.size) (hm : m ≤ 9223372036854775807) : ListIn W0 W (some ⟨kb, 0, none⟩) m ks := by
  refine ⟨⟨by omega, hm⟩, fun q u hu => ?_⟩
  have hq := (List.getElem?_eq_some_iff.1 hu).1
  have he : es[q]? = some (es[q]'(by have := hk.1; omega)) := List.getElem?_eq_getElem _
  obtain ⟨hv, k, x, s, an, ln, cn, ai, li, ci, e⟩ := hk.2 q _ u he hu
  rw [e] at he hv
  refine ⟨kb, 0, k, x, s, an, ln, cn, ai, li, ci, rfl, hlt, ?_, hv⟩
  rw [Nat.zero_add]
  exact hr q _ he
set_option maxHeartbeats 4000000 in
set_option maxRecDepth 100000 in
theorem keyed_in (ts : List Turn) (m sb co : Nat) (ao : Option Addr) (d : Dc) (W0 w : World) (hW0 : Below W0.heap.size W0 w) (hm : ts.length = m) (hmm : m ≤ 1000) (hc : W0.cell? ⟨sb, 0, none⟩ = some (.slice ao m co)) (hK : KeysAt .bool W0 ao ts) (hS : OkT ts) (hV : VRep W0 d.t d.v5) (hb : partsT d.t ≤ 1000000) (hT : SmallT d.t) :
    Calls Tryz.prog 38 #[.pointer (some ⟨sb, 0, none⟩), .agg d.cells.toArray] w fun e w' => ∃ kb, e = .returned (.agg (⟨d, some ⟨kb, 0, none⟩, m, m⟩ : Kd).cells.toArray) ∧ w.heap.size ≤ kb ∧ kb < w'.heap.size ∧ ListIn W0 w' (some ⟨kb, 0, none⟩) m (keysT ts d.t) ∧ Below w.heap.size w w' := by
  unfold Dc.cells
  have HA : Below w.heap.size w ((w.alloc (.cells #[.string d.id, .int .i64 d.ver, .int .i64 d.k, .int .i64 d.x, .string d.s, .slice d.an d.ln d.cn, .slice d.ai d.li d.ci] 50)).alloc zero8) := below_two w _ _
  have hsz : ((w.alloc (.cells #[.string d.id, .int .i64 d.ver, .int .i64 d.k, .int .i64 d.x, .string d.s, .slice d.an d.ln d.cn, .slice d.ai d.li d.ci] 50)).alloc zero8).heap.size = w.heap.size + 2 := by simp
  obtain ⟨cur0, hmk0, hcs0⟩ := make_v m (by omega) ((w.alloc (.cells #[.string d.id, .int .i64 d.ver, .int .i64 d.k, .int .i64 d.x, .string d.s, .slice d.an d.ln d.cn, .slice d.ai d.li d.ci] 50)).alloc zero8)
  obtain ⟨X, hX⟩ : ∃ X, Hid (((w.alloc (.cells #[.string d.id, .int .i64 d.ver, .int .i64 d.k, .int .i64 d.x, .string d.s, .slice d.an d.ln d.cn, .slice d.ai d.li d.ci] 50)).alloc zero8).alloc (.cells cur0 25) = X) := ⟨_, rfl⟩
  have HB : Hid (Below w.heap.size w X) := by rw [← hX.out]; exact HA.alloc HA.size _
  have m1 : Hid (X.heap[w.heap.size]? = some (.cells #[.string d.id, .int .i64 d.ver, .int .i64 d.k, .int .i64 d.x, .string d.s, .slice d.an d.ln d.cn, .slice d.ai d.li d.ci] 50)) := by rw [← hX.out]; exact (Below.heap_alloc _ _ _ (by rw [hsz]; omega)).trans (new1 w _ _)
  have m2 : Hid (X.heap[w.heap.size + 1]? = some zero8) := by rw [← hX.out]; exact (Below.heap_alloc _ _ _ (by rw [hsz]; omega)).trans (new2 w _ _)
  have hg : Hid (Blk X (w.heap.size + 2) 25 (m * 5)) := by rw [← hX.out, ← hsz]; exact ⟨cur0, heap_alloc_new _ _, hcs0⟩
  rw [hsz, hX.out] at hmk0
  have hcw := stay hW0 hc
  have cnt1 := hid_e (count_any sb m co ao ((w.alloc (.cells #[.string d.id, .int .i64 d.ver, .int .i64 d.k, .int .i64 d.x, .string d.s, .slice d.an d.ln d.cn, .slice d.ai d.li d.ci] 50)).alloc zero8) (stay HA hcw))
  have cnt2 := hid_e (count_any sb m co ao X (stay HB.out hcw))
  obtain ⟨kb, hkb⟩ : ∃ kb, Hid (w.heap.size + 2 = kb) := ⟨_, rfl⟩
  rw [hkb.out] at hmk0 hg
  clear HA hcs0 hsz
  have n1 : (m : Int) ≤ 1000 := by omega
  have n0 : (0 : Int) ≤ (m : Int) := by omega
  replace hm := hid_e hm
  replace hc := hid_e hc
  replace hK := hid_e hK
  replace hS := hid_e hS
  replace hV := hid_e hV
  replace hT := hid_e hT
  replace hb := hid_e hb
  replace hW0 := hid_e hW0
  clear hcw
  go_enter Tryz.func38, Tryz.ntmps38
  go_wp2_with (first | (go_at_call 35; refine cnt1.out.mono ?_; rintro e X1 ⟨rfl, rfl⟩) | (go_at_call 35; refine cnt2.out.mono ?_; rintro e X1 ⟨rfl, hX1⟩; have hX2 := hX1.symm; clear hX1; subst hX2))
  clear cnt1 cnt2 hmk0
  go_loopw [6, 12] (fun _ iv wr => ∃ (q : Nat) (es : List (List Value)), iv = .int .i64 q ∧ q ≤ m ∧ Hid (KeysIn W0 (keysT ts d.t) q es) ∧ Hid (RowL 5 es wr kb) ∧ Hid (Blk wr kb 25 (m * 5)) ∧ Hid (Sorted.But kb X wr)) (fun _ iv _ => m - (intOf iv).toNat)
  case atStart => exact ⟨0, [], rfl, Nat.zero_le _, KeysIn.nil _ _, RowL.nil _ _ _, hg, Sorted.But.refl _ _⟩
  case round =>
    clear hg
    obtain ⟨q, es, rfl, hq, hes, hrow, hblk, hbut⟩ := hrel
    have hbw : Hid (Below w.heap.size w wr) := but_from HB.out hbut.out (by have := hkb.out; omega)
    have hXs : Hid (w.heap.size + 1 < X.heap.size) := (Array.getElem?_eq_some_iff.1 m2.out).1
    have m1' : Hid (wr.heap[w.heap.size]? = some (.cells #[.string d.id, .int .i64 d.ver, .int .i64 d.k, .int .i64 d.x, .string d.s, .slice d.an d.ln d.cn, .slice d.ai d.li d.ci] 50)) := (hbut.out.block _ (by have := hXs.out; omega) (by have := hkb.out; omega)).trans m1.out
    have m2' : Hid (wr.heap[w.heap.size + 1]? = some zero8) := (hbut.out.block _ (by have := hXs.out; omega) (by have := hkb.out; omega)).trans m2.out
    have d0 : wr.cell? ⟨w.heap.size, 0, none⟩ = some (.string d.id) := by simp [World.cell?, m1'.out]
    have d1 : wr.cell? ⟨w.heap.size, 1, none⟩ = some (.int .i64 d.ver) := by simp [World.cell?, m1'.out]
    have d2 : wr.cell? ⟨w.heap.size, 2, none⟩ = some (.int .i64 d.k) := by simp [World.cell?, m1'.out]
    have d3 : wr.cell? ⟨w.heap.size, 3, none⟩ = some (.int .i64 d.x) := by simp [World.cell?, m1'.out]
    have d4 : wr.cell? ⟨w.heap.size, 4, none⟩ = some (.string d.s) := by simp [World.cell?, m1'.out]
    have d5 : wr.cell? ⟨w.heap.size, 5, none⟩ = some (.slice d.an d.ln d.cn) := by simp [World.cell?, m1'.out]
    have d6 : wr.cell? ⟨w.heap.size, 6, none⟩ = some (.slice d.ai d.li d.ci) := by simp [World.cell?, m1'.out]
    by_cases hlt' : q < m
    · have q1 : (q : Int) < (m : Int) := by omega
      have q0 : (0 : Int) ≤ (q : Int) := by omega
      obtain ⟨⟨l, fl⟩, hu⟩ : ∃ u, Hid (ts[q]? = some u) := ⟨ts[q]'(by rw [hm.out]; omega), List.getElem?_eq_getElem (by rw [hm.out]; omega)⟩
      have call := hid_e (skey_in ts q sb m co ao d.t d.k d.x d.s d.an d.ln d.cn d.ai d.li d.ci W0 wr (hW0.out.trans (hbw.out.mono hW0.out.size)) hm.out hc.out hK.out hS.out hV.out hb.out hT.out)
      rw [keyAt_in hu.out] at call
      have hrl : Hid (kb < wr.heap.size) := hblk.out.lt
      go_wp2_with fail
      refine call.out.mono ?_
      rintro e Y ⟨k', x', s', an', ln', cn', ai', li', ci', rfl, hv, hby⟩
      have hbY : Hid (Blk Y kb 25 (m * 5)) := hblk.out.keep hby
      have hpush := hid_e ((hrow.out.same (hby.block kb hrl.out)).push (cs := [.int .i64 k', .int .i64 x', .string s', .slice an' ln' cn', .slice ai' li' ci']) (hes.out.five (by rw [keysT_len, hm.out]; omega)) rfl hbY.out (by have h5 := hes.out.1; rw [h5]; omega))
      rw [hes.out.1] at hpush
      have hes' := hid_e (hes.out.push (keysT_at hu.out) hv)
      have hblk' := hid_e (hbY.out.but hpush.out.2)
      have hbut' := hid_e (hbut.out.trans ((Sorted.But.of_below hby).trans hpush.out.2))
      obtain ⟨u0, o0⟩ := hbY.out.cell (j := q * 5) (by omega)
      obtain ⟨u1, o1⟩ := hbY.out.cell (j := q * 5 + 1) (by omega)
      obtain ⟨u2, o2⟩ := hbY.out.cell (j := q * 5 + 2) (by omega)
      obtain ⟨u3, o3⟩ := hbY.out.cell (j := q * 5 + 3) (by omega)
      obtain ⟨u4, o4⟩ := hbY.out.cell (j := q * 5 + 4) (by omega)
      have f0 := hbY.out.soft (q * 5)
      have f1 := hbY.out.soft (q * 5 + 1)
      have f2 := hbY.out.soft (q * 5 + 2)
      have f3 := hbY.out.soft (q * 5 + 3)
      have f4 := hbY.out.soft (q * 5 + 4)
      replace hpush := hid_e hpush.out.1
      clear call hv hby hbY hrow hblk hbut hes m1 m2 m1' m2' hbw hXs hu d0 d1 d2 d3 d4 d5 d6
      go_wp2_with fail
      exact ⟨⟨q + 1, es ++ [[.int .i64 k', .int .i64 x', .string s', .slice an' ln' cn', .slice ai' li' ci']], by go_num, by omega, hes', hpush, hblk', hbut'⟩, by simp [intOf]; omega⟩
    · obtain rfl : q = m := by omega
      have q1 : ¬ (q : Int) < (q : Int) := by omega
      unfold zero8 at m2'
      obtain ⟨r0, r1, r2, r3, r4, r5, r6, r7, rf⟩ := row8_cells m2'.out
      have rf0 := rf 0; have rf1 := rf 1; have rf2 := rf 2; have rf3 := rf 3; have rf4 := rf 4; have rf5 := rf 5; have rf6 := rf 6; have rf7 := rf 7
      have hr := put8_cells m2'.out (.string d.id) (.int .i64 d.ver) (.int .i64 d.k) (.int .i64 d.x) (.string d.s) (.slice d.an d.ln d.cn) (.slice d.ai d.li d.ci) (.slice (some ⟨kb, 0, none⟩) q q)
      have g0 := hid_e (hr 0); have g1 := hid_e (hr 1); have g2 := hid_e (hr 2); have g3 := hid_e (hr 3); have g4 := hid_e (hr 4); have g5 := hid_e (hr 5); have g6 := hid_e (hr 6); have g7 := hid_e (hr 7)
      have hfin : Hid (ListIn W0 (put8 wr (w.heap.size + 1) (.string d.id) (.int .i64 d.ver) (.int .i64 d.k) (.int .i64 d.x) (.string d.s) (.slice d.an d.ln d.cn) (.slice d.ai d.li d.ci) (.slice (some ⟨kb, 0, none⟩) q q)) (some ⟨kb, 0, none⟩) q (keysT ts d.t)) := listIn_row hes.out (by rw [keysT_len, hm.out]) (hrow.out.same (put8_far _ _ _ _ _ _ _ _ (by have := hkb.out; omega))) (by rw [put8_size]; exact hblk.out.lt) (by omega)
      have hB8 := hid_e (hbw.out.trans (put8_below (w := wr) (g := w.heap.size + 1) (B := w.heap.size) (by omega) (.string d.id) (.int .i64 d.ver) (.int .i64 d.k) (.int .i64 d.x) (.string d.s) (.slice d.an d.ln d.cn) (.slice d.ai d.li d.ci) (.slice (some ⟨kb, 0, none⟩) q q)))
      have hkl : Hid (kb < (put8 wr (w.heap.size + 1) (.string d.id) (.int .i64 d.ver) (.int .i64 d.k) (.int .i64 d.x) (.string d.s) (.slice d.an d.ln d.cn) (.slice d.ai d.li d.ci) (.slice (some ⟨kb, 0, none⟩) q q)).heap.size) := by rw [put8_size]; exact hblk.out.lt
      clear hr rf m1 m2 m1' m2' hrow hblk hbut hes hbw hXs
      go_wp2_with fail
      have g0 := g0.out; have g1 := g1.out; have g2 := g2.out; have g3 := g3.out; have g4 := g4.out; have g5 := g5.out; have g6 := g6.out; have g7 := g7.out
      refine bodyPost_ret (v := .agg (⟨d, some ⟨kb, 0, none⟩, q, q⟩ : Kd).cells.toArray) (by unfold Kd.cells; simp [results, Tryz.results38, go_sem, g0, g1, g2, g3, g4, g5, g6, g7]) rfl ?_
      exact ⟨kb, rfl, by have := hkb.out; omega, hkl.out, hfin.out, hB8.out⟩
end Go.Proofs.YtkgcmcpakilacaaGreat.Tree
/-! Documents compared by their keys. -/
namespace Go.Proofs.YtkgcmcpakilacaaGreat.Tree
open Go Go.RowKit Go.Stab

set_option maxRecDepth 100000 in
theorem turned_any (pa : Option Addr) (pl pc : Nat) (fl : Bool) (c : Int) (hc : c = -1 ∨ c = 0 ∨ c = 1) (w : World) : Calls Tryz.prog 62 #[.agg #[.slice pa pl pc, .bool fl], .int .i64 c] w fun e w' => e = .returned (.int .i64 (c * sgB fl)) ∧ Below w.heap.size w w' := by
  have hb : ∀ o, Below w.heap.size w (w.alloc o) := fun o => (Below.refl _ w).alloc (Nat.le_refl _) o
  replace hb := hid_e hb
  cases fl <;> rcases hc with rfl | rfl | rfl <;>
  · go_enter Tryz.func62, Tryz.ntmps62
    go_wp2
    go_ret
    exact ⟨rfl, hb.out _⟩
/-- A document with its keys in memory; what they read as, in W0. -/
def KdOk (W0 : World) (ts : List Turn) (m : Nat) (W : World) (e : Kd) : Prop := e.kl = m ∧ ListIn W0 W e.ka e.kc (keysT ts e.d.t) ∧ SmallT e.d.t
theorem KdOk.keep {W0 W W' : World} {ts : List Turn} {m : Nat} {e : Kd} (h : KdOk W0 ts m W e) (hb : Below W.heap.size W W') : KdOk W0 ts m W' e := ⟨h.1, h.2.1.keep hb, h.2.2⟩
set_option maxHeartbeats 8000000 in
set_option maxRecDepth 100000 in
theorem compare_in (ts : List Turn) (m sb co : Nat) (ao : Option Addr) (x y : Kd) (W0 w : World) (hW0 : Below W0.heap.size W0 w) (hm : ts.length = m) (hmm : m ≤ 1000) (hc : W0.cell? ⟨sb, 0, none⟩ = some (.slice ao m co)) (hK : KeysAt .bool W0 ao ts) (hx : KdOk W0 ts m w x) (hy : KdOk W0 ts m w y) :
    Calls Tryz.prog 40 #[.pointer (some ⟨sb, 0, none⟩), .agg x.cells.toArray, .agg y.cells.toArray] w fun e w' => e = .returned (.int .i64 (cnK ts x.d y.d)) ∧ Below w.heap.size w w' := by
  unfold Kd.cells
  obtain ⟨d1, a1, l1, c1⟩ := x
  obtain ⟨d2, a2, l2, c2⟩ := y
  obtain ⟨h1, hl1, hs1⟩ := hx
  obtain ⟨h2, hl2, hs2⟩ := hy
  simp only at h1 h2 hl1 hl2 hs1 hs2 ⊢
  replace h1 := h1.symm
  replace h2 := h2.symm
  subst h1
  subst h2
  obtain ⟨R, hR⟩ : ∃ R, Hid (cnK ts d1 d2 = R) := ⟨_, rfl⟩
  rw [hR.out]
  obtain ⟨X, hX⟩ : ∃ X, Hid (((w.alloc (.cells #[.string d1.id, .int .i64 d1.ver, .int .i64 d1.k, .int .i64 d1.x, .string d1.s, .slice d1.an d1.ln d1.cn, .slice d1.ai d1.li d1.ci, .slice a1 m c1] 74)).alloc (.cells #[.string d2.id, .int .i64 d2.ver, .int .i64 d2.k, .int .i64 d2.x, .string d2.s, .slice d2.an d2.ln d2.cn, .slice d2.ai d2.li d2.ci, .slice a2 m c2] 74)) = X) := ⟨_, rfl⟩
  have HB : Hid (Below w.heap.size w X) := by rw [← hX.out]; exact below_two w _ _
  have n1 : Hid (X.heap[w.heap.size]? = some (.cells #[.string d1.id, .int .i64 d1.ver, .int .i64 d1.k, .int .i64 d1.x, .string d1.s, .slice d1.an d1.ln d1.cn, .slice d1.ai d1.li d1.ci, .slice a1 m c1] 74)) := by rw [← hX.out]; exact new1 w _ _
  have n2 : Hid (X.heap[w.heap.size + 1]? = some (.cells #[.string d2.id, .int .i64 d2.ver, .int .i64 d2.k, .int .i64 d2.x, .string d2.s, .slice d2.an d2.ln d2.cn, .slice d2.ai d2.li d2.ci, .slice a2 m c2] 74)) := by rw [← hX.out]; exact new2 w _ _
  have hcw := stay hW0 hc
  have cnt1 := hid_e (count_any sb m co ao X (stay HB.out hcw))
  have k1 : (m : Int) ≤ 1000 := by omega
  have k0 : (0 : Int) ≤ (m : Int) := by omega
  replace hm := hid_e hm
  replace hK := hid_e hK
  replace hl1 := hid_e hl1
  replace hl2 := hid_e hl2
  replace hs1 := hid_e hs1
  replace hs2 := hid_e hs2
  replace hW0 := hid_e hW0
  replace hcw := hid_e hcw
  clear hc
  go_enter Tryz.func40, Tryz.ntmps40
  go_wp2_with (first | (go_at_call 35; refine cnt1.out.mono ?_; rintro e X1 ⟨rfl, hX1⟩; have hX2 := hX1.symm; clear hX1; subst hX2) | rw [hX.out])
  clear cnt1 hX
  go_loopw [7, 8, 11] (fun _ _ iv wr => ∃ (q : Nat), iv = .int .i64 q ∧ q ≤ m ∧ Hid (R = cmpF (cmpS d1.id d2.id) d1.t d2.t (ts.drop q)) ∧ Hid (Below X.heap.size X wr)) (fun _ _ iv _ => m - (intOf iv).toNat)
  case atStart => exact ⟨0, rfl, Nat.zero_le _, hR.out.symm, Below.refl _ _⟩
  case round =>
    clear hR
    obtain ⟨q, rfl, hq, hR, hbX⟩ := hrel
    have hbw : Hid (Below w.heap.size w wr) := HB.out.trans (hbX.out.mono HB.out.size)
    have n1' : Hid (wr.heap[w.heap.size]? = some (.cells #[.string d1.id, .int .i64 d1.ver, .int .i64 d1.k, .int .i64 d1.x, .string d1.s, .slice d1.an d1.ln d1.cn, .slice d1.ai d1.li d1.ci, .slice a1 m c1] 74)) := block_keep n1.out hbX.out
    have n2' : Hid (wr.heap[w.heap.size + 1]? = some (.cells #[.string d2.id, .int .i64 d2.ver, .int .i64 d2.k, .int .i64 d2.x, .string d2.s, .slice d2.an d2.ln d2.cn, .slice d2.ai d2.li d2.ci, .slice a2 m c2] 74)) := block_keep n2.out hbX.out
    by_cases hlt' : q < m
    · have q1 : (q : Int) < (m : Int) := by omega
      have q0 : (0 : Int) ≤ (q : Int) := by omega
      obtain ⟨⟨l, fl⟩, hu⟩ : ∃ u, Hid (ts[q]? = some u) := ⟨ts[q]'(by rw [hm.out]; omega), List.getElem?_eq_getElem (by rw [hm.out]; omega)⟩
      obtain ⟨b1, o1, k1, x1, s1, an1, ln1, cn1, ai1, li1, ci1, ea1, -, hc1, hv1⟩ := hl1.out.item (keysT_at (t := d1.t) hu.out)
      obtain ⟨b2, o2, k2, x2, s2, an2, ln2, cn2, ai2, li2, ci2, ea2, -, hc2, hv2⟩ := hl2.out.item (keysT_at (t := d2.t) hu.out)
      subst ea1
      subst ea2
      obtain ⟨p0, p1, p2, p3, p4⟩ := cells5 hc1
      obtain ⟨r0, r1, r2, r3, r4⟩ := cells5 hc2
      clear hc1 hc2
      have hbd : Hid (Below w.heap.size w wr.drew) := below_drew hbw.out
      replace p0 := stay hbd.out p0
      replace p1 := stay hbd.out p1
      replace p2 := stay hbd.out p2
      replace p3 := stay hbd.out p3
      replace p4 := stay hbd.out p4
      replace r0 := stay hbd.out r0
      replace r1 := stay hbd.out r1
      replace r2 := stay hbd.out r2
      replace r3 := stay hbd.out r3
      replace r4 := stay hbd.out r4
      have z1 : wr.drew.cell? ⟨w.heap.size, 7, none⟩ = some (.slice (some ⟨b1, o1, none⟩) m c1) := by have h := n1'.out; show wr.cell? _ = _; simp [World.cell?, h]
      have z2 : wr.drew.cell? ⟨w.heap.size + 1, 7, none⟩ = some (.slice (some ⟨b2, o2, none⟩) m c2) := by have h := n2'.out; show wr.cell? _ = _; simp [World.cell?, h]
      obtain ⟨kt1, hkt1⟩ : ∃ kt, Hid (keyT (sgB fl) d1.t l = kt) := ⟨_, rfl⟩
      obtain ⟨kt2, hkt2⟩ : ∃ kt, Hid (keyT (sgB fl) d2.t l = kt) := ⟨_, rfl⟩
      have g1 : Hid (SmallT kt1) := by rw [← hkt1.out]; exact key_small hs1.out
      have g2 : Hid (SmallT kt2) := by rw [← hkt2.out]; exact key_small hs2.out
      rw [hkt1.out] at hv1
      rw [hkt2.out] at hv2
      have hb0 : Hid (Below W0.heap.size W0 wr.drew) := hW0.out.trans (hbd.out.mono hW0.out.size)
      have call := hid_e (compare_any kt1 kt2 (five k1 x1 s1 (.slice an1 ln1 cn1) (.slice ai1 li1 ci1)) (five k2 x2 s2 (.slice an2 ln2 cn2) (.slice ai2 li2 ci2)) wr.drew (VRep.keep hb0.out _ _ hv1) (VRep.keep hb0.out _ _ hv2) (small_below _ g1.out) (small_below _ g2.out))
      obtain ⟨C, hC⟩ : ∃ C, Hid (cmpT kt1 kt2 = C) := ⟨_, rfl⟩
      rw [hC.out] at call
      have hCr : Hid (C = -1 ∨ C = 0 ∨ C = 1) := by rw [← hC.out]; exact cmpT_range _ _
      have hF1 : Hid (C ≠ 0 → R = C * sgB fl) := fun h => by rw [hR.out, drop_turn hu.out, cmpF_ne (by rw [hkt1.out, hkt2.out, hC.out]; exact h), hkt1.out, hkt2.out, hC.out]
      have hF2 : Hid (C = 0 → R = cmpF (cmpS d1.id d2.id) d1.t d2.t (ts.drop (q + 1))) := fun h => by rw [hR.out, drop_turn hu.out, cmpF_eq (by rw [hkt1.out, hkt2.out, hC.out]; exact h)]
      obtain ⟨tg, tq, pa, pc, ea, t0, t1, -⟩ := hK.out q l fl hu.out
      subst ea
      have t0' := stay hW0.out t0
      have t1' := stay hW0.out t1
      obtain ⟨ll, hll⟩ : ∃ ll, Hid (l.length = ll) := ⟨_, rfl⟩
      rw [hll.out] at t0'
      clear t0 t1 hv1 hv2 hkt1 hkt2 hC hR g1 g2 hb0 hu n1' n2'
      go_upto_region 4 with fail
      go_region_held3 (fun W => W.cell? ⟨w.heap.size, 7, none⟩ = some (.slice (some ⟨b1, o1, none⟩) m c1) ∧ W.cell? ⟨w.heap.size + 1, 7, none⟩ = some (.slice (some ⟨b2, o2, none⟩) m c2) ∧ W.cell? ⟨b1, o1 + q * 5, none⟩ = some (.int .i64 k1) ∧ W.cell? ⟨b1, o1 + q * 5 + 1, none⟩ = some (.int .i64 x1) ∧ W.cell? ⟨b1, o1 + q * 5 + 2, none⟩ = some (.string s1) ∧ W.cell? ⟨b1, o1 + q * 5 + 3, none⟩ = some (.slice an1 ln1 cn1) ∧ W.cell? ⟨b1, o1 + q * 5 + 4, none⟩ = some (.slice ai1 li1 ci1) ∧ W.cell? ⟨b2, o2 + q * 5, none⟩ = some (.int .i64 k2) ∧ W.cell? ⟨b2, o2 + q * 5 + 1, none⟩ = some (.int .i64 x2) ∧ W.cell? ⟨b2, o2 + q * 5 + 2, none⟩ = some (.string s2) ∧ W.cell? ⟨b2, o2 + q * 5 + 3, none⟩ = some (.slice an2 ln2 cn2) ∧ W.cell? ⟨b2, o2 + q * 5 + 4, none⟩ = some (.slice ai2 li2 ci2)) (go_keep) ((go_at_call 61; refine call.out.mono ?_; rintro e Y ⟨rfl, hy⟩; replace p0 := stay hy p0; replace p1 := stay hy p1; replace p2 := stay hy p2; replace p3 := stay hy p3; replace p4 := stay hy p4; replace r0 := stay hy r0; replace r1 := stay hy r1; replace r2 := stay hy r2; replace r3 := stay hy r3; replace r4 := stay hy r4; replace z1 := stay hy z1; replace z2 := stay hy z2; clear call))
      all_goals
        clear p0 p1 p2 p3 p4 r0 r1 r2 r3 r4 z1 z2
        have hbY : Hid (Below wr.heap.size wr Y) := (below_drew (Below.refl _ wr)).trans (hy.mono (Nat.le_refl _))
        have hbXY : Hid (Below X.heap.size X Y) := hbX.out.trans (hbY.out.mono hbX.out.size)
        have hbwY : Hid (Below w.heap.size w Y) := hbw.out.trans (hbY.out.mono hbw.out.size)
        clear hy hbY hbX hbw
        by_cases hC0 : C = 0
        · have hF := hid_e (hF2.out hC0)
          clear hF1 hF2 hCr t0' t1'
          subst hC0
          go_wp2_with fail
          exact ⟨⟨q + 1, by go_num, by omega, hF, hbXY⟩, by simp [intOf]; omega⟩
        · have hF := hid_e (hF1.out hC0)
          have hCb : (C != 0) = true := by simpa using hC0
          have s0 := stay hbwY.out hcw.out
          have s1 := stay hbwY.out t0'
          have s2 := stay hbwY.out t1'
          have tcall := hid_e (turned_any pa ll pc fl C hCr.out Y)
          clear hF1 hF2 hCr t0' t1' hC0
          go_wp2_with fail
          refine tcall.out.mono ?_
          rintro e Z ⟨rfl, hz⟩
          replace hz := hid_e hz
          clear tcall
          rw [← hF.out]
          go_wp2_with fail
          go_ret
          exact ⟨rfl, hbwY.out.trans (hz.out.mono hbwY.out.size)⟩
    · obtain rfl : q = m := by omega
      have q1 : ¬ (q : Int) < (q : Int) := by omega
      have hF : Hid (R = cmpS d1.id d2.id) := by rw [hR.out, List.drop_of_length_le (by rw [hm.out]; exact Nat.le_refl _)]; rfl
      have z1 : wr.cell? ⟨w.heap.size, 0, none⟩ = some (.string d1.id) := by have h := n1'.out; simp [World.cell?, h]
      have z2 : wr.cell? ⟨w.heap.size + 1, 0, none⟩ = some (.string d2.id) := by have h := n2'.out; simp [World.cell?, h]
      clear n1' n2' hR hbX
      go_wp2_with (go_at_call 63; refine (cmpStr _ _ _).mono ?_; rintro e X1 ⟨rfl, rfl⟩; rw [← hF.out])
      go_ret
      exact ⟨rfl, hbw.out⟩
/-- Compare of any two documents. -/
theorem keyed_kd {ts : List Turn} {m : Nat} {d : Dc} {W0 W : World} {kb : Nat} (h : ListIn W0 W (some ⟨kb, 0, none⟩) m (keysT ts d.t)) (hT : SmallT d.t) : KdOk W0 ts m W ⟨d, some ⟨kb, 0, none⟩, m, m⟩ := ⟨rfl, h, hT⟩
set_option maxHeartbeats 8000000 in
set_option maxRecDepth 100000 in
theorem scompare_any (ts : List Turn) (m sb co : Nat) (ao : Option Addr) (d1 d2 : Dc) (W0 w : World) (hW0 : Below W0.heap.size W0 w) (hm : ts.length = m) (hmm : m ≤ 1000) (hc : W0.cell? ⟨sb, 0, none⟩ = some (.slice ao m co)) (hK : KeysAt .bool W0 ao ts) (hS : OkT ts) (hV1 : VRep W0 d1.t d1.v5) (hb1 : partsT d1.t ≤ 1000000) (hT1 : SmallT d1.t) (hV2 : VRep W0 d2.t d2.v5) (hb2 : partsT d2.t ≤ 1000000) (hT2 : SmallT d2.t) :
    Calls Tryz.prog 22 #[.pointer (some ⟨sb, 0, none⟩), .agg d1.cells.toArray, .agg d2.cells.toArray] w fun e w' => e = .returned (.int .i64 (cnK ts d1 d2)) ∧ Below w.heap.size w w' := by
  obtain ⟨R, hR⟩ : ∃ R, Hid (cnK ts d1 d2 = R) := ⟨_, rfl⟩
  rw [hR.out]
  have key1 := hid_e (fun W (h : Below W0.heap.size W0 W) => keyed_in ts m sb co ao d1 W0 W h hm hmm hc hK hS hV1 hb1 hT1)
  have key2 := hid_e (fun W (h : Below W0.heap.size W0 W) => keyed_in ts m sb co ao d2 W0 W h hm hmm hc hK hS hV2 hb2 hT2)
  have cmp := hid_e (fun kb1 kb2 W (h : Below W0.heap.size W0 W) h1 h2 => compare_in ts m sb co ao ⟨d1, some ⟨kb1, 0, none⟩, m, m⟩ ⟨d2, some ⟨kb2, 0, none⟩, m, m⟩ W0 W h hm hmm hc hK (keyed_kd h1 hT1) (keyed_kd h2 hT2))
  unfold Dc.cells at *
  unfold Kd.cells at *
  obtain ⟨X, hX⟩ : ∃ X, Hid ((w.alloc (.cells #[.string d1.id, .int .i64 d1.ver, .int .i64 d1.k, .int .i64 d1.x, .string d1.s, .slice d1.an d1.ln d1.cn, .slice d1.ai d1.li d1.ci] 50)).alloc (.cells #[.string d2.id, .int .i64 d2.ver, .int .i64 d2.k, .int .i64 d2.x, .string d2.s, .slice d2.an d2.ln d2.cn, .slice d2.ai d2.li d2.ci] 50) = X) := ⟨_, rfl⟩
  have HB : Hid (Below w.heap.size w X) := by rw [← hX.out]; exact below_two w _ _
  have n1 : Hid (X.heap[w.heap.size]? = some (.cells #[.string d1.id, .int .i64 d1.ver, .int .i64 d1.k, .int .i64 d1.x, .string d1.s, .slice d1.an d1.ln d1.cn, .slice d1.ai d1.li d1.ci] 50)) := by rw [← hX.out]; exact new1 w _ _
  have n2 : Hid (X.heap[w.heap.size + 1]? = some (.cells #[.string d2.id, .int .i64 d2.ver, .int .i64 d2.k, .int .i64 d2.x, .string d2.s, .slice d2.an d2.ln d2.cn, .slice d2.ai d2.li d2.ci] 50)) := by rw [← hX.out]; exact new2 w _ _
  have v1_0 : X.drew.cell? ⟨w.heap.size, 0, none⟩ = some (.string d1.id) := by have h := n1.out; show X.cell? _ = _; simp [World.cell?, h]
  have v1_1 : X.drew.cell? ⟨w.heap.size, 1, none⟩ = some (.int .i64 d1.ver) := by have h := n1.out; show X.cell? _ = _; simp [World.cell?, h]
  have v1_2 : X.drew.cell? ⟨w.heap.size, 2, none⟩ = some (.int .i64 d1.k) := by have h := n1.out; show X.cell? _ = _; simp [World.cell?, h]
  have v1_3 : X.drew.cell? ⟨w.heap.size, 3, none⟩ = some (.int .i64 d1.x) := by have h := n1.out; show X.cell? _ = _; simp [World.cell?, h]
  have v1_4 : X.drew.cell? ⟨w.heap.size, 4, none⟩ = some (.string d1.s) := by have h := n1.out; show X.cell? _ = _; simp [World.cell?, h]
  have v1_5 : X.drew.cell? ⟨w.heap.size, 5, none⟩ = some (.slice d1.an d1.ln d1.cn) := by have h := n1.out; show X.cell? _ = _; simp [World.cell?, h]
  have v1_6 : X.drew.cell? ⟨w.heap.size, 6, none⟩ = some (.slice d1.ai d1.li d1.ci) := by have h := n1.out; show X.cell? _ = _; simp [World.cell?, h]
  have v2_0 : X.drew.cell? ⟨w.heap.size + 1, 0, none⟩ = some (.string d2.id) := by have h := n2.out; show X.cell? _ = _; simp [World.cell?, h]
  have v2_1 : X.drew.cell? ⟨w.heap.size + 1, 1, none⟩ = some (.int .i64 d2.ver) := by have h := n2.out; show X.cell? _ = _; simp [World.cell?, h]
  have v2_2 : X.drew.cell? ⟨w.heap.size + 1, 2, none⟩ = some (.int .i64 d2.k) := by have h := n2.out; show X.cell? _ = _; simp [World.cell?, h]
  have v2_3 : X.drew.cell? ⟨w.heap.size + 1, 3, none⟩ = some (.int .i64 d2.x) := by have h := n2.out; show X.cell? _ = _; simp [World.cell?, h]
  have v2_4 : X.drew.cell? ⟨w.heap.size + 1, 4, none⟩ = some (.string d2.s) := by have h := n2.out; show X.cell? _ = _; simp [World.cell?, h]
  have v2_5 : X.drew.cell? ⟨w.heap.size + 1, 5, none⟩ = some (.slice d2.an d2.ln d2.cn) := by have h := n2.out; show X.cell? _ = _; simp [World.cell?, h]
  have v2_6 : X.drew.cell? ⟨w.heap.size + 1, 6, none⟩ = some (.slice d2.ai d2.li d2.ci) := by have h := n2.out; show X.cell? _ = _; simp [World.cell?, h]
  have hbd : Hid (Below w.heap.size w X.drew) := below_drew HB.out
  have hb0 : Hid (Below W0.heap.size W0 X.drew) := hW0.trans (hbd.out.mono hW0.size)
  replace hW0 := hid_e hW0
  clear n1 n2 hc hK hS hV1 hV2 hT1 hT2 hb1 hb2 HB
  go_enter Tryz.func22, Tryz.ntmps22
  go_upto_region 1 with fail
  rw [hX.out]
  go_region_held3 (fun W => W.cell? ⟨w.heap.size, 0, none⟩ = some (.string d1.id) ∧ W.cell? ⟨w.heap.size, 1, none⟩ = some (.int .i64 d1.ver) ∧ W.cell? ⟨w.heap.size, 2, none⟩ = some (.int .i64 d1.k) ∧ W.cell? ⟨w.heap.size, 3, none⟩ = some (.int .i64 d1.x) ∧ W.cell? ⟨w.heap.size, 4, none⟩ = some (.string d1.s) ∧ W.cell? ⟨w.heap.size, 5, none⟩ = some (.slice d1.an d1.ln d1.cn) ∧ W.cell? ⟨w.heap.size, 6, none⟩ = some (.slice d1.ai d1.li d1.ci) ∧ W.cell? ⟨w.heap.size + 1, 0, none⟩ = some (.string d2.id) ∧ W.cell? ⟨w.heap.size + 1, 1, none⟩ = some (.int .i64 d2.ver) ∧ W.cell? ⟨w.heap.size + 1, 2, none⟩ = some (.int .i64 d2.k) ∧ W.cell? ⟨w.heap.size + 1, 3, none⟩ = some (.int .i64 d2.x) ∧ W.cell? ⟨w.heap.size + 1, 4, none⟩ = some (.string d2.s) ∧ W.cell? ⟨w.heap.size + 1, 5, none⟩ = some (.slice d2.an d2.ln d2.cn) ∧ W.cell? ⟨w.heap.size + 1, 6, none⟩ = some (.slice d2.ai d2.li d2.ci)) (go_keep) (first
    | (go_at_call 38; refine (key1.out _ hb0.out).mono ?_; rintro e Y1 ⟨kb1, rfl, -, -, hk1, hy1⟩; have va1_0 := stay hy1 v1_0; have va1_1 := stay hy1 v1_1; have va1_2 := stay hy1 v1_2; have va1_3 := stay hy1 v1_3; have va1_4 := stay hy1 v1_4; have va1_5 := stay hy1 v1_5; have va1_6 := stay hy1 v1_6; have va2_0 := stay hy1 v2_0; have va2_1 := stay hy1 v2_1; have va2_2 := stay hy1 v2_2; have va2_3 := stay hy1 v2_3; have va2_4 := stay hy1 v2_4; have va2_5 := stay hy1 v2_5; have va2_6 := stay hy1 v2_6; have hc1 := hid_e (hbd.out.trans (hy1.mono hbd.out.size)); have hd1 := hid_e (hb0.out.trans (hy1.mono hb0.out.size)); replace hk1 := hid_e hk1; clear hy1 key1 v1_0 v1_1 v1_2 v1_3 v1_4 v1_5 v1_6 v2_0 v2_1 v2_2 v2_3 v2_4 v2_5 v2_6)
    | (go_at_call 38; refine (key2.out _ hd1.out).mono ?_; rintro e Y2 ⟨kb2, rfl, -, -, hk2, hy2⟩; have vb1_0 := stay hy2 va1_0; have vb1_1 := stay hy2 va1_1; have vb1_2 := stay hy2 va1_2; have vb1_3 := stay hy2 va1_3; have vb1_4 := stay hy2 va1_4; have vb1_5 := stay hy2 va1_5; have vb1_6 := stay hy2 va1_6; have vb2_0 := stay hy2 va2_0; have vb2_1 := stay hy2 va2_1; have vb2_2 := stay hy2 va2_2; have vb2_3 := stay hy2 va2_3; have vb2_4 := stay hy2 va2_4; have vb2_5 := stay hy2 va2_5; have vb2_6 := stay hy2 va2_6; have hc2 := hid_e (hc1.out.trans (hy2.mono hc1.out.size)); have hd2 := hid_e (hd1.out.trans (hy2.mono hd1.out.size)); have hk1' := hid_e (hk1.out.keep hy2); replace hk2 := hid_e hk2; clear hy2 key2 hk1 hc1 hd1 va1_0 va1_1 va1_2 va1_3 va1_4 va1_5 va1_6 va2_0 va2_1 va2_2 va2_3 va2_4 va2_5 va2_6)
    | (go_at_call 40; refine (cmp.out kb1 kb2 _ hd2.out hk1'.out hk2.out).mono ?_; rintro e Y3 ⟨rfl, hy3⟩; have vc1_0 := stay hy3 vb1_0; have vc1_1 := stay hy3 vb1_1; have vc1_2 := stay hy3 vb1_2; have vc1_3 := stay hy3 vb1_3; have vc1_4 := stay hy3 vb1_4; have vc1_5 := stay hy3 vb1_5; have vc1_6 := stay hy3 vb1_6; have vc2_0 := stay hy3 vb2_0; have vc2_1 := stay hy3 vb2_1; have vc2_2 := stay hy3 vb2_2; have vc2_3 := stay hy3 vb2_3; have vc2_4 := stay hy3 vb2_4; have vc2_5 := stay hy3 vb2_5; have vc2_6 := stay hy3 vb2_6; have hc3 := hid_e (hc2.out.trans (hy3.mono hc2.out.size)); clear hy3 cmp hk1' hk2 hc2 hd2 vb1_0 vb1_1 vb1_2 vb1_3 vb1_4 vb1_5 vb1_6 vb2_0 vb2_1 vb2_2 vb2_3 vb2_4 vb2_5 vb2_6; rw [hR.out]))
  all_goals
    go_wp2_with fail
    go_ret
    exact ⟨rfl, hc3.out⟩
end Go.Proofs.YtkgcmcpakilacaaGreat.Tree
/-! The document's comparison. -/
namespace Go.Proofs.YtkgcmcpakilacaaGreat.Tree
open Go Go.RowKit Go.Stab

theorem ids_cases (a b : ByteArray) : (cmpS a b = -1 ∧ Op.bytesLess a.toList b.toList = true) ∨ (cmpS a b = 0 ∧ Op.bytesLess a.toList b.toList = false ∧ (a.toList == b.toList) = true) ∨ (cmpS a b = 1 ∧ Op.bytesLess a.toList b.toList = false ∧ (a.toList == b.toList) = false) := by
  obtain ⟨h1, h2⟩ := cb_less a.data.toList b.data.toList
  rw [← toList_data, ← toList_data] at h1 h2
  have e0 : Lib.compareBytes a.toList b.toList = cmpS a b := by rw [toList_data, toList_data]; rfl
  rw [e0] at h1 h2
  rcases cmpS_range a b with hc | hc | hc
  · exact .inl ⟨hc, h1.1 (by omega)⟩
  · refine .inr (.inl ⟨hc, ?_, by rw [h2.1 hc]; simp⟩)
    cases h : Op.bytesLess a.toList b.toList with
    | false => rfl
    | true => have := h1.2 h; omega
  · refine .inr (.inr ⟨hc, ?_, ?_⟩)
    · cases h : Op.bytesLess a.toList b.toList with
      | false => rfl
      | true => have := h1.2 h; omega
    · cases h : (a.toList == b.toList) with
      | false => rfl
      | true => have := h2.2 (by simpa using h); omega
set_option maxHeartbeats 8000000 in
set_option maxRecDepth 100000 in
theorem rcmp_any (ts : List Turn) (m co : Nat) (ao : Option Addr) (d1 d2 : Dc) (w : World) (hm : ts.length = m) (hmm : m ≤ 1000) (hK : KeysAt wayE w ao ts) (hS : OkT ts) (hV1 : VRep w d1.t d1.v5) (hb1 : partsT d1.t ≤ 1000000) (hT1 : SmallT d1.t) (hV2 : VRep w d2.t d2.v5) (hb2 : partsT d2.t ≤ 1000000) (hT2 : SmallT d2.t) :
    Calls Tryz.prog 23 #[.slice ao m co, .agg d1.cells.toArray, .agg d2.cells.toArray] w fun e w' => e = .returned (.int .i64 (cnK ts d1 d2)) ∧ Below w.heap.size w w' := by
  obtain ⟨R, hR⟩ : ∃ R, Hid (cnK ts d1 d2 = R) := ⟨_, rfl⟩
  rw [hR.out]
  unfold Dc.cells
  obtain ⟨X, hX⟩ : ∃ X, Hid ((w.alloc (.cells #[.string d1.id, .int .i64 d1.ver, .int .i64 d1.k, .int .i64 d1.x, .string d1.s, .slice d1.an d1.ln d1.cn, .slice d1.ai d1.li d1.ci] 50)).alloc (.cells #[.string d2.id, .int .i64 d2.ver, .int .i64 d2.k, .int .i64 d2.x, .string d2.s, .slice d2.an d2.ln d2.cn, .slice d2.ai d2.li d2.ci] 50) = X) := ⟨_, rfl⟩
  have HB : Hid (Below w.heap.size w X) := by rw [← hX.out]; exact below_two w _ _
  have n1 : Hid (X.heap[w.heap.size]? = some (.cells #[.string d1.id, .int .i64 d1.ver, .int .i64 d1.k, .int .i64 d1.x, .string d1.s, .slice d1.an d1.ln d1.cn, .slice d1.ai d1.li d1.ci] 50)) := by rw [← hX.out]; exact new1 w _ _
  have n2 : Hid (X.heap[w.heap.size + 1]? = some (.cells #[.string d2.id, .int .i64 d2.ver, .int .i64 d2.k, .int .i64 d2.x, .string d2.s, .slice d2.an d2.ln d2.cn, .slice d2.ai d2.li d2.ci] 50)) := by rw [← hX.out]; exact new2 w _ _
  have k1 : (m : Int) ≤ 1000 := by omega
  have k0 : (0 : Int) ≤ (m : Int) := by omega
  replace hm := hid_e hm
  replace hK := hid_e hK
  replace hS := hid_e hS
  replace hV1 := hid_e hV1
  replace hV2 := hid_e hV2
  replace hT1 := hid_e hT1
  replace hT2 := hid_e hT2
  replace hb1 := hid_e hb1
  replace hb2 := hid_e hb2
  go_enter Tryz.func23, Tryz.ntmps23
  go_wp2_with (rw [hX.out])
  clear hX
  go_loopw [7, 8] (fun iv _ wr => ∃ (q : Nat), iv = .int .i64 q ∧ q ≤ m ∧ Hid (R = cmpF (cmpS d1.id d2.id) d1.t d2.t (ts.drop q)) ∧ Hid (Below X.heap.size X wr)) (fun iv _ _ => m - (intOf iv).toNat)
  case atStart => exact ⟨0, rfl, Nat.zero_le _, hR.out.symm, Below.refl _ _⟩
  case round =>
    clear hR
    obtain ⟨q, rfl, hq, hR, hbX⟩ := hrel
    have hbw : Hid (Below w.heap.size w wr) := HB.out.trans (hbX.out.mono HB.out.size)
    have n1' : Hid (wr.heap[w.heap.size]? = some (.cells #[.string d1.id, .int .i64 d1.ver, .int .i64 d1.k, .int .i64 d1.x, .string d1.s, .slice d1.an d1.ln d1.cn, .slice d1.ai d1.li d1.ci] 50)) := block_keep n1.out hbX.out
    have n2' : Hid (wr.heap[w.heap.size + 1]? = some (.cells #[.string d2.id, .int .i64 d2.ver, .int .i64 d2.k, .int .i64 d2.x, .string d2.s, .slice d2.an d2.ln d2.cn, .slice d2.ai d2.li d2.ci] 50)) := block_keep n2.out hbX.out
    by_cases hlt' : q < m
    · have q1 : (q : Int) < (m : Int) := by omega
      have q0 : (0 : Int) ≤ (q : Int) := by omega
      obtain ⟨⟨l, fl⟩, hu⟩ : ∃ u, Hid (ts[q]? = some u) := ⟨ts[q]'(by rw [hm.out]; omega), List.getElem?_eq_getElem (by rw [hm.out]; omega)⟩
      have hbd : Hid (Below w.heap.size w wr.drew) := below_drew hbw.out
      obtain ⟨kt1, hkt1⟩ : ∃ kt, Hid (keyT (sgB fl) d1.t l = kt) := ⟨_, rfl⟩
      obtain ⟨kt2, hkt2⟩ : ∃ kt, Hid (keyT (sgB fl) d2.t l = kt) := ⟨_, rfl⟩
      have g1 : Hid (SmallT kt1) := by rw [← hkt1.out]; exact key_small hT1.out
      have g2 : Hid (SmallT kt2) := by rw [← hkt2.out]; exact key_small hT2.out
      have of1 := hid_e (fun W (hW : Below w.heap.size w W) => rof_any ts q m co ao d1.t d1.k d1.x d1.s d1.an d1.ln d1.cn d1.ai d1.li d1.ci W hm.out (hK.out.keep hW) hS.out (VRep.keep hW _ _ hV1.out) hb1.out hT1.out)
      have of2 := hid_e (fun W (hW : Below w.heap.size w W) => rof_any ts q m co ao d2.t d2.k d2.x d2.s d2.an d2.ln d2.cn d2.ai d2.li d2.ci W hm.out (hK.out.keep hW) hS.out (VRep.keep hW _ _ hV2.out) hb2.out hT2.out)
      rw [keyAt_in hu.out, hkt1.out] at of1
      rw [keyAt_in hu.out, hkt2.out] at of2
      obtain ⟨tg, tq, pa, pc, ea, -, t1, -⟩ := hK.out q l fl hu.out
      subst ea
      unfold wayE at t1
      obtain ⟨C, hC⟩ : ∃ C, Hid (cmpT kt1 kt2 = C) := ⟨_, rfl⟩
      obtain ⟨sg, hsg⟩ : ∃ sg, Hid (sgB fl = sg) := ⟨_, rfl⟩
      obtain ⟨P, hP⟩ : ∃ P, Hid (C * sg = P) := ⟨_, rfl⟩
      rw [hsg.out] at t1
      have hPr : P = -1 ∨ P = 0 ∨ P = 1 := by
        rw [← hP.out, ← hsg.out, ← hC.out]
        rcases cmpT_range kt1 kt2 with h | h | h <;> rcases sgB_range fl with g | g <;> rw [h, g] <;> simp
      have hmul : Hid (IntKind.i64.wrap (C * sg) = P) := by rw [hP.out]; exact wrap_in _ (by omega) (by omega)
      have hF1 : Hid (P ≠ 0 → R = P) := fun h => by
        rw [hR.out, drop_turn hu.out, cmpF_ne (by rw [hkt1.out, hkt2.out, hC.out]; intro e; rw [e, Int.zero_mul] at hP; exact h hP.out.symm), hkt1.out, hkt2.out, hC.out, hsg.out, hP.out]
      have hF2 : Hid (P = 0 → R = cmpF (cmpS d1.id d2.id) d1.t d2.t (ts.drop (q + 1))) := fun h => by
        have h0 : C = 0 := by
          have := hP.out
          rcases sgB_range fl with g | g <;> rw [hsg.out] at g <;> rw [g] at this <;> omega
        rw [hR.out, drop_turn hu.out, cmpF_eq (by rw [hkt1.out, hkt2.out, hC.out]; exact h0)]
      replace hPr := hid_e hPr
      have v1_2 : wr.drew.cell? ⟨w.heap.size, 2, none⟩ = some (.int .i64 d1.k) := by have h := n1'.out; show wr.cell? _ = _; simp [World.cell?, h]
      have v1_3 : wr.drew.cell? ⟨w.heap.size, 3, none⟩ = some (.int .i64 d1.x) := by have h := n1'.out; show wr.cell? _ = _; simp [World.cell?, h]
      have v1_4 : wr.drew.cell? ⟨w.heap.size, 4, none⟩ = some (.string d1.s) := by have h := n1'.out; show wr.cell? _ = _; simp [World.cell?, h]
      have v1_5 : wr.drew.cell? ⟨w.heap.size, 5, none⟩ = some (.slice d1.an d1.ln d1.cn) := by have h := n1'.out; show wr.cell? _ = _; simp [World.cell?, h]
      have v1_6 : wr.drew.cell? ⟨w.heap.size, 6, none⟩ = some (.slice d1.ai d1.li d1.ci) := by have h := n1'.out; show wr.cell? _ = _; simp [World.cell?, h]
      have v2_2 : wr.drew.cell? ⟨w.heap.size + 1, 2, none⟩ = some (.int .i64 d2.k) := by have h := n2'.out; show wr.cell? _ = _; simp [World.cell?, h]
      have v2_3 : wr.drew.cell? ⟨w.heap.size + 1, 3, none⟩ = some (.int .i64 d2.x) := by have h := n2'.out; show wr.cell? _ = _; simp [World.cell?, h]
      have v2_4 : wr.drew.cell? ⟨w.heap.size + 1, 4, none⟩ = some (.string d2.s) := by have h := n2'.out; show wr.cell? _ = _; simp [World.cell?, h]
      have v2_5 : wr.drew.cell? ⟨w.heap.size + 1, 5, none⟩ = some (.slice d2.an d2.ln d2.cn) := by have h := n2'.out; show wr.cell? _ = _; simp [World.cell?, h]
      have v2_6 : wr.drew.cell? ⟨w.heap.size + 1, 6, none⟩ = some (.slice d2.ai d2.li d2.ci) := by have h := n2'.out; show wr.cell? _ = _; simp [World.cell?, h]
      have vt : wr.drew.cell? ⟨tg, tq + q * 2 + 1, none⟩ = some (.int .i64 sg) := stay hbd.out t1
      clear t1 hkt1 hkt2 hR hu n1' n2' hP hsg
      go_upto_region 4 with fail
      go_region_held3 (fun W => W.cell? ⟨w.heap.size, 2, none⟩ = some (.int .i64 d1.k) ∧ W.cell? ⟨w.heap.size, 3, none⟩ = some (.int .i64 d1.x) ∧ W.cell? ⟨w.heap.size, 4, none⟩ = some (.string d1.s) ∧ W.cell? ⟨w.heap.size, 5, none⟩ = some (.slice d1.an d1.ln d1.cn) ∧ W.cell? ⟨w.heap.size, 6, none⟩ = some (.slice d1.ai d1.li d1.ci) ∧ W.cell? ⟨w.heap.size + 1, 2, none⟩ = some (.int .i64 d2.k) ∧ W.cell? ⟨w.heap.size + 1, 3, none⟩ = some (.int .i64 d2.x) ∧ W.cell? ⟨w.heap.size + 1, 4, none⟩ = some (.string d2.s) ∧ W.cell? ⟨w.heap.size + 1, 5, none⟩ = some (.slice d2.an d2.ln d2.cn) ∧ W.cell? ⟨w.heap.size + 1, 6, none⟩ = some (.slice d2.ai d2.li d2.ci) ∧ W.cell? ⟨tg, tq + q * 2 + 1, none⟩ = some (.int .i64 sg)) (go_keep) (first
        | (go_at_call 21; refine (of1.out _ hbd.out).mono ?_; rintro e Y1 ⟨k1, x1, s1, an1, ln1, cn1, ai1, li1, ci1, rfl, hv1, hy1⟩; have va1_2 := stay hy1 v1_2; have va1_3 := stay hy1 v1_3; have va1_4 := stay hy1 v1_4; have va1_5 := stay hy1 v1_5; have va1_6 := stay hy1 v1_6; have va2_2 := stay hy1 v2_2; have va2_3 := stay hy1 v2_3; have va2_4 := stay hy1 v2_4; have va2_5 := stay hy1 v2_5; have va2_6 := stay hy1 v2_6; have vat := stay hy1 vt; have hc1 := hid_e (hbd.out.trans (hy1.mono hbd.out.size)); replace hv1 := hid_e hv1; have hz1 := hid_e ((below_drew (Below.refl _ wr)).trans (hy1.mono (Nat.le_refl _))); clear hy1 of1 v1_2 v1_3 v1_4 v1_5 v1_6 v2_2 v2_3 v2_4 v2_5 v2_6 vt)
        | (go_at_call 21; refine (of2.out _ hc1.out).mono ?_; rintro e Y2 ⟨k2, x2, s2, an2, ln2, cn2, ai2, li2, ci2, rfl, hv2, hy2⟩; have vb1_2 := stay hy2 va1_2; have vb1_3 := stay hy2 va1_3; have vb1_4 := stay hy2 va1_4; have vb1_5 := stay hy2 va1_5; have vb1_6 := stay hy2 va1_6; have vb2_2 := stay hy2 va2_2; have vb2_3 := stay hy2 va2_3; have vb2_4 := stay hy2 va2_4; have vb2_5 := stay hy2 va2_5; have vb2_6 := stay hy2 va2_6; have vbt := stay hy2 vat; have hv1' := hid_e (VRep.keep hy2 _ _ hv1.out); replace hv2 := hid_e hv2; have hz2 := hid_e (hz1.out.trans (hy2.mono hz1.out.size)); clear hy2 of2 hv1 hz1 hc1 va1_2 va1_3 va1_4 va1_5 va1_6 va2_2 va2_3 va2_4 va2_5 va2_6 vat)
        | (go_at_call 47; refine (rcompare_any kt1 kt2 (five k1 x1 s1 (.slice an1 ln1 cn1) (.slice ai1 li1 ci1)) (five k2 x2 s2 (.slice an2 ln2 cn2) (.slice ai2 li2 ci2)) _ hv1'.out hv2.out g1.out g2.out).mono ?_; rintro e Y3 ⟨rfl, hy3⟩; rw [hC.out]; have vc1_2 := stay hy3 vb1_2; have vc1_3 := stay hy3 vb1_3; have vc1_4 := stay hy3 vb1_4; have vc1_5 := stay hy3 vb1_5; have vc1_6 := stay hy3 vb1_6; have vc2_2 := stay hy3 vb2_2; have vc2_3 := stay hy3 vb2_3; have vc2_4 := stay hy3 vb2_4; have vc2_5 := stay hy3 vb2_5; have vc2_6 := stay hy3 vb2_6; have vct := stay hy3 vbt; have hz3 := hid_e (hz2.out.trans (hy3.mono hz2.out.size)); clear hy3 hv1' hv2 hz2 vb1_2 vb1_3 vb1_4 vb1_5 vb1_6 vb2_2 vb2_3 vb2_4 vb2_5 vb2_6 vbt))
      all_goals
        rw [hmul.out]
        have hbXY : Hid (Below X.heap.size X Y3) := hbX.out.trans (hz3.out.mono hbX.out.size)
        have hbwY : Hid (Below w.heap.size w Y3) := hbw.out.trans (hz3.out.mono hbw.out.size)
        clear hz3 hbX hbw hmul hC g1 g2 vc1_2 vc1_3 vc1_4 vc1_5 vc1_6 vc2_2 vc2_3 vc2_4 vc2_5 vc2_6 vct
        by_cases hP0 : P = 0
        · have hF := hid_e (hF2.out hP0)
          clear hF1 hF2 hPr
          subst hP0
          go_wp2_with fail
          exact ⟨⟨q + 1, by go_num, by omega, hF, hbXY⟩, by simp [intOf]; omega⟩
        · have hF := hid_e (hF1.out hP0)
          have hPb : (P != 0) = true := by simpa using hP0
          clear hF1 hF2 hPr hP0
          go_wp2_with fail
          go_ret
          exact ⟨by rw [hF.out]; rfl, hbwY.out⟩
    · obtain rfl : q = m := by omega
      have q1 : ¬ (q : Int) < (q : Int) := by omega
      have hF : Hid (R = cmpS d1.id d2.id) := by rw [hR.out, List.drop_of_length_le (by rw [hm.out]; exact Nat.le_refl _)]; rfl
      have z1 : wr.cell? ⟨w.heap.size, 0, none⟩ = some (.string d1.id) := by have h := n1'.out; simp [World.cell?, h]
      have z2 : wr.cell? ⟨w.heap.size + 1, 0, none⟩ = some (.string d2.id) := by have h := n2'.out; simp [World.cell?, h]
      clear n1' n2' hR hbX
      rcases ids_cases d1.id d2.id with ⟨hc, hl⟩ | ⟨hc, hl, he⟩ | ⟨hc, hl, he⟩
      all_goals
        replace hF : Hid (R = _) := hF.out.trans hc
        clear hc
        go_wp2_with fail
        go_ret
        exact ⟨by rw [hF.out]; rfl, hbw.out⟩
end Go.Proofs.YtkgcmcpakilacaaGreat.Tree
/-! Order of every list of documents. -/
namespace Go.Proofs.YtkgcmcpakilacaaGreat.Tree
open Go Go.RowKit Go.Stab

set_option maxHeartbeats 8000000 in
set_option maxRecDepth 100000 in
/-- Order, given what keys are made, and how documents with keys are compared. -/
theorem order_big (rv : Value) (a : Option Addr) (c n : Nat) (ds : List Dc) (w : World) (lt : Dc → Dc → Bool) (O : Swo lt) (cn : Dc → Dc → Int) (hlt : ∀ x y, lt x y = decide (cn x y < 0)) (K : World → Kd → Prop)
    (hK : ∀ W W' e, K W e → Sorted.But w.heap.size W W' → K W' e)
    (hkeyed : ∀ d ∈ ds, ∀ W, Sorted.But w.heap.size w W → w.heap.size < W.heap.size → Calls Tryz.prog 38 #[rv, .agg d.cells.toArray] W fun e W' => ∃ q : Kd, e = .returned (.agg q.cells.toArray) ∧ q.d = d ∧ K W' q ∧ Below W.heap.size W W')
    (hcmp : ∀ x y W, Sorted.But w.heap.size w W → K W x → K W y → Calls Tryz.prog 40 #[rv, .agg x.cells.toArray, .agg y.cells.toArray] W fun e W' => e = .returned (.int .i64 (cn x.d y.d)) ∧ Below W.heap.size W W')
    (hn : ds.length = n) (hnn : n ≤ 1000000) (hV : DocsAt w a ds) :
    Calls Tryz.prog 15 #[rv, .slice a n c] w fun e w' => ∃ ob, e = .returned (.slice (some ⟨ob, 0, none⟩) n n) ∧ DocsAt w' (some ⟨ob, 0, none⟩) (isort lt ds) ∧ w.heap.size ≤ ob ∧ Blk w' ob 50 (n * 7) ∧ Below w.heap.size w w' := by
  obtain ⟨cur0, hmk0, hcs0⟩ := make_k n (by omega) w
  have n0 : (0 : Int) ≤ (n : Int) := by omega
  have n1 : (n : Int) ≤ 1000000 := by omega
  obtain ⟨W1, hW1⟩ : ∃ W1, Hid (w.alloc (.cells cur0 74) = W1) := ⟨_, rfl⟩
  rw [hW1.out] at hmk0
  have hg1 : Hid (Blk W1 w.heap.size 74 (n * 8)) := by rw [← hW1.out]; exact ⟨cur0, heap_alloc_new w _, hcs0⟩
  have hb1 : Hid (Sorted.But w.heap.size w W1) := by rw [← hW1.out]; exact ⟨rfl, rfl, rfl, by simp, fun k hk _ => Below.heap_alloc w _ k hk, fun cur t f h => by simp at h⟩
  have hs1 : Hid (w.heap.size < W1.heap.size) := hg1.out.lt
  clear hW1
  replace hn := hid_e hn
  replace hV := hid_e hV
  replace hK := hid_e hK
  replace hkeyed := hid_e hkeyed
  replace hcmp := hid_e hcmp
  replace hlt := hid_e hlt
  obtain ⟨rb, hrb⟩ : ∃ rb, Hid (w.heap.size = rb) := ⟨_, rfl⟩
  rw [hrb.out] at hmk0 hg1 hb1 hs1
  go_enter Tryz.func15, Tryz.ntmps15
  go_wp2_with fail
  go_loopw [6, 7, 16] (fun _ _ iv wr => ∃ (q : Nat) (es : List Kd), iv = .int .i64 q ∧ q ≤ n ∧ Hid (es.map (·.d) = ds.take q) ∧ Hid (∀ e ∈ es, K wr e) ∧ Hid (RowL 8 (es.map Kd.cells) wr rb) ∧ Hid (Blk wr rb 74 (n * 8)) ∧ Hid (Sorted.But rb w wr)) (fun _ _ iv _ => n - (intOf iv).toNat)
  case atStart => exact ⟨0, [], rfl, Nat.zero_le _, rfl, (fun e he => by cases he), RowL.nil _ _ _, hg1, hb1⟩
  case round =>
    clear hg1 hb1
    obtain ⟨q, es, rfl, hq, hes, hKe, hrow, hblk, hb⟩ := hrel
    have hel : Hid (es.length = q) := by have h := congrArg List.length hes.out; rw [List.length_map, List.length_take, hn.out] at h; show _ = _; omega
    by_cases hlt' : q < n
    · have q1 : (q : Int) < (n : Int) := by omega
      have q0 : (0 : Int) ≤ (q : Int) := by omega
      obtain ⟨d, hd⟩ : ∃ d, Hid (ds[q]? = some d) := ⟨ds[q]'(by rw [hn.out]; omega), List.getElem?_eq_getElem (by rw [hn.out]; omega)⟩
      obtain ⟨b, o, ea, hc1⟩ := (hV.out.keep (but_below hb.out (by rw [hrb.out]; exact Nat.le_refl _))) q d hd.out
      subst ea
      unfold Dc.cells at hc1
      obtain ⟨x0, x1, x2, x3, x4, x5, x6⟩ := cells7 hc1
      clear hc1
      have hrl : Hid (rb < wr.heap.size) := hblk.out.lt
      have call := hid_e (fun ob => hkeyed.out d (List.mem_of_getElem? hd.out) (wr.alloc ob) (by rw [hrb.out]; exact hb.out.trans (Sorted.But.of_below ((Below.refl _ wr).alloc (Nat.le_refl _) ob))) (by rw [hrb.out, World.size_alloc]; have := hrl.out; omega))
      unfold Dc.cells at call
      go_wp2_with fail
      refine (call.out _).mono ?_
      rintro e X ⟨kd, rfl, hkd, hKx, hbx'⟩
      have hbx : Hid (Below wr.heap.size wr X) := below_box hbx'
      have hbX : Hid (Blk X rb 74 (n * 8)) := hblk.out.keep hbx.out
      have hpush := hid_e ((hrow.out.same (hbx.out.block rb hrl.out)).push (cs := kd.cells) (by intro l hl; obtain ⟨e, -, rfl⟩ := List.mem_map.1 hl; rfl) rfl hbX.out (by rw [List.length_map, hel.out]; omega))
      rw [List.length_map, hel.out, show es.map Kd.cells ++ [kd.cells] = (es ++ [kd]).map Kd.cells by simp] at hpush
      have hbw := hid_e ((Sorted.But.of_below hbx.out).trans hpush.out.2)
      have hKe' : Hid (∀ e ∈ es ++ [kd], K (X.setCells rb (q * 8) kd.cells) e) := by
        intro e he
        rcases List.mem_append.1 he with he | he
        · exact hK.out _ _ e (hKe.out e he) (by rw [hrb.out]; exact hbw.out)
        · rw [List.mem_singleton.1 he]; exact hK.out _ _ kd hKx (by rw [hrb.out]; exact hpush.out.2)
      have hes' : Hid ((es ++ [kd]).map (·.d) = ds.take (q + 1)) := by show _ = _; rw [List.map_append, hes.out, List.take_add_one, hd.out]; simp [hkd]
      have hblk' := hid_e (hbX.out.but hpush.out.2)
      have hb' := hid_e (hb.out.trans hbw.out)
      obtain ⟨u0, m0⟩ := hbX.out.cell (j := q * 8) (by omega)
      obtain ⟨u1, m1⟩ := hbX.out.cell (j := q * 8 + 1) (by omega)
      obtain ⟨u2, m2⟩ := hbX.out.cell (j := q * 8 + 2) (by omega)
      obtain ⟨u3, m3⟩ := hbX.out.cell (j := q * 8 + 3) (by omega)
      obtain ⟨u4, m4⟩ := hbX.out.cell (j := q * 8 + 4) (by omega)
      obtain ⟨u5, m5⟩ := hbX.out.cell (j := q * 8 + 5) (by omega)
      obtain ⟨u6, m6⟩ := hbX.out.cell (j := q * 8 + 6) (by omega)
      obtain ⟨u7, m7⟩ := hbX.out.cell (j := q * 8 + 7) (by omega)
      have f0 := hbX.out.soft (q * 8)
      have f1 := hbX.out.soft (q * 8 + 1)
      have f2 := hbX.out.soft (q * 8 + 2)
      have f3 := hbX.out.soft (q * 8 + 3)
      have f4 := hbX.out.soft (q * 8 + 4)
      have f5 := hbX.out.soft (q * 8 + 5)
      have f6 := hbX.out.soft (q * 8 + 6)
      have f7 := hbX.out.soft (q * 8 + 7)
      unfold Kd.cells
      clear call x0 x1 x2 x3 x4 x5 x6 hKx hbx' hbx hbX hbw hkd hrow hblk hb hKe hes
      go_wp2_with fail
      exact ⟨⟨q + 1, es ++ [kd], by go_num, by omega, hes', hKe', hpush.out.1, hblk', hb'⟩, by simp [intOf]; omega⟩
    · obtain rfl : q = n := by omega
      have q1 : ¬ (q : Int) < (q : Int) := by omega
      rw [List.take_of_length_le (by rw [hn.out]; exact Nat.le_refl _)] at hes
      obtain ⟨D, hD⟩ : ∃ D : List {e : Kd // K wr e}, Hid (D.map (·.1) = es) := ⟨es.attachWith _ hKe.out, by show _ = _; simp⟩
      have hDl : Hid (D.length = q) := by rw [← hel.out, ← hD.out]; show _ = _; simp
      have hRow : Hid (Sorted.RowE encK wr rb D) := rowL_rowE (by rw [show D.map (fun e => e.1.cells) = (D.map (·.1)).map Kd.cells by simp, hD.out]; exact hrow.out) hblk.out (by rw [hDl.out]; exact Nat.le_refl _)
      have call := hid_e (Sorted.sort_any (rv := rv) encK_ok (b := rb) (w0 := wr) (lt := fun (x y : {e : Kd // K wr e}) => lt x.1.d y.1.d) ⟨fun x => O.irr x.1.d, fun x y z => O.tr x.1.d y.1.d z.1.d, fun x y z => O.neg x.1.d y.1.d z.1.d⟩ (fun x y => cn x.1.d y.1.d) (fun x y => hlt.out x.1.d y.1.d) (fun x y W hW => hcmp.out x.1 y.1 W (by rw [hrb.out]; exact hb.out.trans hW) (hK.out wr W x.1 x.2 (by rw [hrb.out]; exact hW)) (hK.out wr W y.1 y.2 (by rw [hrb.out]; exact hW))) D q q wr (Sorted.But.refl _ _) hRow.out hDl.out (by omega))
      have hrl : Hid (rb < wr.heap.size) := hblk.out.lt
      obtain ⟨SD, hSD⟩ : ∃ SD, Hid (isort (fun (x y : {e : Kd // K wr e}) => lt x.1.d y.1.d) D = SD) := ⟨_, rfl⟩
      have hSl : Hid (SD.length = q) := by rw [← hSD.out, ← hDl.out]; exact isort_length _ _
      have hSdoc : Hid (SD.map (fun x => x.1.d) = isort lt ds) := by
        show _ = _
        rw [← hSD.out, isort_map (lt' := lt) (fun x : {e : Kd // K wr e} => x.1.d) (fun _ _ => rfl) D, ← hes.out, ← hD.out]
        simp
      rw [hSD.out] at call
      clear hRow hrow hKe hes hel hblk hkeyed hcmp hlt hV hK hD
      go_wp2_with fail
      refine call.out.mono ?_
      rintro e X ⟨rfl, hRX, hBX⟩
      have hbX : Hid (Below w.heap.size w X) := (but_below hb.out (by rw [hrb.out]; exact Nat.le_refl _)).trans ((but_below (hb.out.trans hBX) (by rw [hrb.out]; exact Nat.le_refl _)).mono (Nat.le_refl _) |> fun h => ⟨hBX.os, hBX.tape, hBX.output, hBX.size, fun k hk => hBX.block k (by have := hrl.out; have := hrb.out; omega) (by have := hrb.out; omega)⟩)
      have hrX : Hid (rb < X.heap.size) := Nat.lt_of_lt_of_le hrl.out hBX.size
      replace hRX := hid_e hRX
      clear call hBX hb hrl
      obtain ⟨cur1, hmk1, hcs1⟩ := make_d q (by omega) X
      obtain ⟨X2, hX2⟩ : ∃ X2, Hid (X.alloc (.cells cur1 50) = X2) := ⟨_, rfl⟩
      rw [hX2.out] at hmk1
      have hgd : Hid (Blk X2 X.heap.size 50 (q * 7)) := by rw [← hX2.out]; exact ⟨cur1, heap_alloc_new X _, hcs1⟩
      have hbd : Hid (Below X.heap.size X X2) := by rw [← hX2.out]; exact (Below.refl _ X).alloc (Nat.le_refl _) _
      clear hX2
      obtain ⟨ob, hob⟩ : ∃ ob, Hid (X.heap.size = ob) := ⟨_, rfl⟩
      rw [hob.out] at hmk1 hgd
      go_wp2_with fail
      go_loopw [9, 10, 37] (fun _ _ iv wr => ∃ (p : Nat), iv = .int .i64 p ∧ p ≤ q ∧ Hid (RowL 7 ((SD.take p).map (fun x => x.1.d.cells)) wr ob) ∧ Hid (Blk wr ob 50 (q * 7)) ∧ Hid (Below X.heap.size X wr)) (fun _ _ iv _ => q - (intOf iv).toNat)
      case atStart => exact ⟨0, rfl, Nat.zero_le _, RowL.nil _ _ _, hgd, hbd⟩
      case round =>
        clear hgd hbd
        obtain ⟨p, rfl, hp, hrow, hblk, hb⟩ := hrel
        by_cases hpl : p < q
        · have p1 : (p : Int) < (q : Int) := by omega
          have p0 : (0 : Int) ≤ (p : Int) := by omega
          obtain ⟨kd, hkd⟩ : ∃ kd, Hid (SD[p]? = some kd) := ⟨SD[p]'(by rw [hSl.out]; omega), List.getElem?_eq_getElem (by rw [hSl.out]; omega)⟩
          have hc1 : CellsAt wr rb (p * 8) kd.1.cells := fun j u hj => (hb.out.cell (p := ⟨rb, p * 8 + j, none⟩) hrX.out).trans (rowE_cells hRX.out hkd.out j u hj)
          unfold Kd.cells at hc1
          obtain ⟨x0, x1, x2, x3, x4, x5, x6, x7⟩ := cells8 hc1
          clear hc1
          have hol : Hid (ob < wr.heap.size) := hblk.out.lt
          obtain ⟨Y, hY⟩ : ∃ Y, Hid (wr.alloc (.cells #[.string kd.1.d.id, .int .i64 kd.1.d.ver, .int .i64 kd.1.d.k, .int .i64 kd.1.d.x, .string kd.1.d.s, .slice kd.1.d.an kd.1.d.ln kd.1.d.cn, .slice kd.1.d.ai kd.1.d.li kd.1.d.ci, .slice kd.1.ka kd.1.kl kd.1.kc] 74) = Y) := ⟨_, rfl⟩
          have hbY : Hid (Below wr.heap.size wr Y) := by rw [← hY.out]; exact (Below.refl _ wr).alloc (Nat.le_refl _) _
          have hyc : ∀ j, Y.cell? ⟨wr.heap.size, j, none⟩ = #[.string kd.1.d.id, .int .i64 kd.1.d.ver, .int .i64 kd.1.d.k, .int .i64 kd.1.d.x, .string kd.1.d.s, .slice kd.1.d.an kd.1.d.ln kd.1.d.cn, .slice kd.1.d.ai kd.1.d.li kd.1.d.ci, Value.slice kd.1.ka kd.1.kl kd.1.kc][j]? := fun j => by rw [← hY.out]; unfold World.cell?; rw [heap_alloc_new wr]; rfl
          have y0 := hyc 0; have y1 := hyc 1; have y2 := hyc 2; have y3 := hyc 3; have y4 := hyc 4; have y5 := hyc 5; have y6 := hyc 6
          simp only [List.getElem?_toArray, List.getElem?_cons_zero, List.getElem?_cons_succ] at y0 y1 y2 y3 y4 y5 y6
          clear hyc
          have hblY : Hid (Blk Y ob 50 (q * 7)) := hblk.out.keep hbY.out
          have hpush := hid_e ((hrow.out.same (hbY.out.block ob hol.out)).push (cs := kd.1.d.cells) (by intro l hl; obtain ⟨e, -, rfl⟩ := List.mem_map.1 hl; rfl) rfl hblY.out (by rw [List.length_map, List.length_take, hSl.out]; omega))
          rw [List.length_map, List.length_take, hSl.out, Nat.min_eq_left (by omega)] at hpush
          have hrow' : Hid (RowL 7 ((SD.take (p + 1)).map (fun x => x.1.d.cells)) (Y.setCells ob (p * 7) kd.1.d.cells) ob) := by
            have h := hpush.out.1
            rw [show (SD.take p).map (fun x => x.1.d.cells) ++ [kd.1.d.cells] = (SD.take (p + 1)).map (fun x => x.1.d.cells) by rw [List.take_add_one, hkd.out]; simp] at h
            exact h
          have hblk' := hid_e (hblY.out.but hpush.out.2)
          have hb' : Hid (Below X.heap.size X (Y.setCells ob (p * 7) kd.1.d.cells)) := by
            have h2 := hpush.out.2
            exact (hb.out.trans (hbY.out.mono hb.out.size)).trans ⟨h2.os, h2.tape, h2.output, h2.size, fun k hk => h2.block k (by have := hb.out.size; have := hbY.out.size; omega) (by have := hob.out; omega)⟩
          obtain ⟨u0, m0⟩ := hblY.out.cell (j := p * 7) (by omega)
          obtain ⟨u1, m1⟩ := hblY.out.cell (j := p * 7 + 1) (by omega)
          obtain ⟨u2, m2⟩ := hblY.out.cell (j := p * 7 + 2) (by omega)
          obtain ⟨u3, m3⟩ := hblY.out.cell (j := p * 7 + 3) (by omega)
          obtain ⟨u4, m4⟩ := hblY.out.cell (j := p * 7 + 4) (by omega)
          obtain ⟨u5, m5⟩ := hblY.out.cell (j := p * 7 + 5) (by omega)
          obtain ⟨u6, m6⟩ := hblY.out.cell (j := p * 7 + 6) (by omega)
          have f0 := hblY.out.soft (p * 7)
          have f1 := hblY.out.soft (p * 7 + 1)
          have f2 := hblY.out.soft (p * 7 + 2)
          have f3 := hblY.out.soft (p * 7 + 3)
          have f4 := hblY.out.soft (p * 7 + 4)
          have f5 := hblY.out.soft (p * 7 + 5)
          have f6 := hblY.out.soft (p * 7 + 6)
          clear hpush hbY hblY hrow hblk hb hol
          go_wp2_with (first | rw [hY.out] | fail)
          exact ⟨⟨p + 1, by go_num, by omega, hrow', hblk', hb'⟩, by simp [intOf]; omega⟩
        · obtain rfl : p = q := by omega
          have p1 : ¬ (p : Int) < (p : Int) := by omega
          rw [List.take_of_length_le (by rw [hSl.out]; exact Nat.le_refl _)] at hrow
          have hfin : Hid (DocsAt wr (some ⟨ob, 0, none⟩) (isort lt ds)) := by
            intro i d hd
            rw [← hSdoc.out, List.getElem?_map] at hd
            obtain ⟨x, hx, rfl⟩ := Option.map_eq_some_iff.1 hd
            refine ⟨ob, 0, rfl, ?_⟩
            rw [Nat.zero_add]
            exact hrow.out i _ (by rw [List.getElem?_map, hx]; rfl)
          have hbF : Hid (Below w.heap.size w wr) := hbX.out.trans (hb.out.mono hbX.out.size)
          have hlo : Hid (w.heap.size ≤ ob) := by rw [← hob.out]; exact hbX.out.size
          clear hrow hb hRX
          go_wp2_with fail
          go_ret
          exact ⟨ob, rfl, hfin.out, hlo.out, hblk.out, hbF.out⟩
theorem ListIn.but {W0 W W' : World} {b kb c : Nat} {its : List Tr} (h : ListIn W0 W (some ⟨kb, 0, none⟩) c its) (hne : kb ≠ b) (hb : Sorted.But b W W') : ListIn W0 W' (some ⟨kb, 0, none⟩) c its := by
  refine ⟨h.1, fun q u hu => ?_⟩
  obtain ⟨b', o, k, x, s, an, ln, cn, ai, li, ci, e, hlt, hc, hv⟩ := h.2 q u hu
  cases e
  exact ⟨kb, 0, k, x, s, an, ln, cn, ai, li, ci, rfl, Nat.lt_of_lt_of_le hlt hb.size, fun j v hj => (World.cell?_of_block (hb.block kb hlt hne)).trans (hc j v hj), hv⟩
/-- A document with its keys, these not in the block b. -/
def KdIn (W0 : World) (ts : List Turn) (m b : Nat) (W : World) (e : Kd) : Prop := ∃ kb, e.ka = some ⟨kb, 0, none⟩ ∧ kb ≠ b ∧ KdOk W0 ts m W e
theorem KdIn.but {W0 W W' : World} {ts : List Turn} {m b : Nat} {e : Kd} (h : KdIn W0 ts m b W e) (hb : Sorted.But b W W') : KdIn W0 ts m b W' e := by
  obtain ⟨kb, h1, h2, h3, h4, h5⟩ := h
  refine ⟨kb, h1, h2, h3, ?_, h5⟩
  rw [h1] at h4 ⊢
  exact h4.but h2 hb
theorem sorder_any (ts : List Turn) (m sb co : Nat) (ao : Option Addr) (a : Option Addr) (c n : Nat) (ds : List Dc) (w : World) (hm : ts.length = m) (hmm : m ≤ 1000) (hc : w.cell? ⟨sb, 0, none⟩ = some (.slice ao m co)) (hK : KeysAt .bool w ao ts) (hS : OkT ts) (hR : Reads' w ds) (hP : ∀ d ∈ ds, partsT d.t ≤ 1000000) (hT : ∀ d ∈ ds, SmallT d.t) (hn : ds.length = n) (hnn : n ≤ 1000000) (hV : DocsAt w a ds) :
    Calls Tryz.prog 15 #[.pointer (some ⟨sb, 0, none⟩), .slice a n c] w fun e w' => ∃ ob, e = .returned (.slice (some ⟨ob, 0, none⟩) n n) ∧ DocsAt w' (some ⟨ob, 0, none⟩) (isort (ltK' ts) ds) ∧ w.heap.size ≤ ob ∧ Blk w' ob 50 (n * 7) ∧ Below w.heap.size w w' :=
  order_big (.pointer (some ⟨sb, 0, none⟩)) a c n ds w (ltK' ts) (swoK ts) (cnK ts) (fun _ _ => rfl) (KdIn w ts m w.heap.size) (fun _ _ _ h hb => h.but hb)
    (fun d hd W hW hlt => (keyed_in ts m sb co ao d w W (but_below hW (Nat.le_refl _)) hm hmm hc hK hS (hR d hd) (hP d hd) (hT d hd)).mono fun e W' ⟨kb, h1, h2, h3, h4, h5⟩ => ⟨⟨d, some ⟨kb, 0, none⟩, m, m⟩, h1, rfl, ⟨kb, rfl, by omega, keyed_kd h4 (hT d hd)⟩, h5⟩)
    (fun x y W hW hx hy => compare_in ts m sb co ao x y w W (but_below hW (Nat.le_refl _)) hm hmm hc hK (by obtain ⟨_, _, _, h⟩ := hx; exact h) (by obtain ⟨_, _, _, h⟩ := hy; exact h)) hn hnn hV
theorem dorder_any (ts : List Turn) (m co : Nat) (ao : Option Addr) (a : Option Addr) (c n : Nat) (ds : List Dc) (w : World) (hm : ts.length = m) (hmm : m ≤ 1000) (hK : KeysAt wayE w ao ts) (hS : OkT ts) (hR : Reads' w ds) (hP : ∀ d ∈ ds, partsT d.t ≤ 1000000) (hT : ∀ d ∈ ds, SmallT d.t) (hn : ds.length = n) (hnn : n ≤ 1000000) (hV : DocsAt w a ds) :
    Calls Tryz.prog 16 #[.slice ao m co, .slice a n c] w fun e w' => ∃ v, e = .returned v ∧ DRow w.heap.size w' v (isort (ltK' ts) ds) ∧ Below w.heap.size w w' :=
  rorder_any (.slice ao m co) a c n ds w (ltK' ts) (swoK ts) (cnK ts) (fun _ _ => rfl)
    (fun x hx y hy W hW => rcmp_any ts m co ao x y W hm hmm (hK.keep hW) hS (VRep.keep hW _ _ (hR x hx)) (hP x hx) (hT x hx) (VRep.keep hW _ _ (hR y hy)) (hP y hy) (hT y hy)) hn hnn hV
end Go.Proofs.YtkgcmcpakilacaaGreat.Tree
/-! What many lets in; frames for ShapeOrders. -/
namespace Go.Proofs.YtkgcmcpakilacaaGreat.Tree
open Go Go.RowKit Go.Stab

set_option maxHeartbeats 4000000 in
set_option maxRecDepth 100000 in
theorem many_exact (a : Option Addr) (c n : Nat) (ds : List Dc) (w : World) (hn : ds.length = n) (hnn : n ≤ 4611686018427387904) (hV : DocsAt w a ds) (hR : Reads' w ds) (hS : ∀ d ∈ ds, SmallT d.t) :
    Calls Tryz.prog 9 #[.slice a n c] w fun e w' => SomeB (fun z => z = false → n ≤ 150 ∧ ∀ d ∈ ds, partsT d.t ≤ 5000) e ∧ Below w.heap.size w w' := by
  have n0 : (0 : Int) ≤ (n : Int) := by omega
  have n1 : (n : Int) ≤ 4611686018427387904 := by omega
  replace hn := hid_e hn
  replace hV := hid_e hV
  replace hR := hid_e hR
  replace hS := hid_e hS
  obtain ⟨P, hP⟩ : ∃ P : Bool → Prop, ∀ z, P z ↔ (z = false → n ≤ 150 ∧ ∀ d ∈ ds, partsT d.t ≤ 5000) := ⟨_, fun _ => Iff.rfl⟩
  suffices h : Calls Tryz.prog 9 #[.slice a n c] w fun e w' => SomeB P e ∧ Below w.heap.size w w' from h.mono (by rintro e w' ⟨⟨z, e1, h1⟩, h2⟩; exact ⟨⟨z, e1, (hP z).1 h1⟩, h2⟩)
  have hPt : Hid (P true) := (hP true).2 (fun h => by cases h)
  have hPf : Hid (n ≤ 150 → (∀ d ∈ ds, partsT d.t ≤ 5000) → P false) := fun h h' => (hP false).2 (fun _ => ⟨h, h'⟩)
  clear hP
  go_enter Tryz.func9, Tryz.ntmps9
  go_wp2_with fail
  go_loopw [3, 4] (fun nv iv wr => ∃ (q : Nat) (z : Int), nv = .int .i64 z ∧ iv = .int .i64 q ∧ q ≤ n ∧ Hid (0 ≤ z ∧ z ≤ 8796093031953 ∧ (z ≤ 5000 → z = (partsL ((ds.map Dc.t).take q) : Nat))) ∧ Hid (Below w.heap.size w wr)) (fun _ iv _ => n - (intOf iv).toNat)
  case atStart => exact ⟨0, 0, rfl, rfl, Nat.zero_le _, ⟨by omega, by omega, fun _ => by simp [partsL]⟩, Below.refl _ _⟩
  case round =>
    obtain ⟨q, z, rfl, rfl, hq, hzz, hb⟩ := hrel
    by_cases hlt : q < n ∧ z ≤ 5000
    · obtain ⟨hlt, hz⟩ := hlt
      have q1 : (q : Int) < (n : Int) := by omega
      have q0 : (0 : Int) ≤ (q : Int) := by omega
      obtain ⟨d, hd⟩ : ∃ d, Hid (ds[q]? = some d) := ⟨ds[q]'(by rw [hn.out]; omega), List.getElem?_eq_getElem (by rw [hn.out]; omega)⟩
      obtain ⟨b, o, ea, hc1⟩ := (hV.out.keep hb.out) q d hd.out
      subst ea
      have call := hid_e (parts_exact d.t _ 5000 wr (VRep.keep hb.out _ _ (hR.out d (List.mem_of_getElem? hd.out))) (hS.out d (List.mem_of_getElem? hd.out)) (by decide) (by decide))
      unfold Dc.v5 five at call
      unfold Dc.cells at hc1
      obtain ⟨x10, x11, x12, x13, x14, x15, x16⟩ := cells7 hc1
      clear hc1
      go_wp2_with fail
      refine call.out.mono ?_
      rintro e w2 ⟨⟨m, rfl, hm⟩, hb2⟩
      have hb' := hid_e (hb.out.trans (hb2.mono hb.out.size))
      have hz' : Hid (0 ≤ z + m ∧ z + m ≤ 8796093031953 ∧ (z + m ≤ 5000 → z + m = (partsL ((ds.map Dc.t).take (q + 1)) : Nat))) := by
        obtain ⟨h1, h2, h3⟩ := hzz.out
        obtain ⟨k1, k2, k3, -⟩ := hm
        have hp := partsL_step (l := ds.map Dc.t) (q := q) (u := d.t) (by rw [List.getElem?_map, hd.out]; rfl)
        refine ⟨by omega, by omega, fun h => ?_⟩
        have e1 := h3 (by omega)
        have e2 := k3 (by omega)
        omega
      have z0 : -9223372036854775808 ≤ z + m := by have := hz'.out.1; omega
      have z1 : z + m ≤ 9223372036854775807 := by have := hz'.out.2.1; omega
      clear call x10 x11 x12 x13 x14 x15 x16 hb2 hb hm hzz
      go_wp2_with fail
      exact ⟨⟨q + 1, z + m, by go_num, by go_num, by omega, hz', hb'⟩, by simp [intOf]; omega⟩
    · by_cases hq1 : q < n
      · have q1 : (q : Int) < (n : Int) := by omega
        have z1 : ¬ z ≤ 5000 := by omega
        have z2 : (5000 : Int) < z := by omega
        by_cases hl : n ≤ 150
        · have hl' : ¬ (150 : Int) < (n : Int) := by omega
          clear hlt hzz
          go_wp2_with fail
          go_ret
          exact ⟨⟨_, rfl, hPt.out⟩, hb.out⟩
        · have hl' : (150 : Int) < (n : Int) := by omega
          clear hlt hzz
          go_wp2_with fail
          go_ret
          exact ⟨⟨_, rfl, hPt.out⟩, hb.out⟩
      · obtain rfl : q = n := by omega
        have q1 : ¬ (q : Int) < (q : Int) := by omega
        by_cases hl : q ≤ 150
        · have hl' : ¬ (150 : Int) < (q : Int) := by omega
          by_cases hz5 : z ≤ 5000
          · have z2 : ¬ (5000 : Int) < z := by omega
            have hp : Hid (P false) := hPf.out hl (fun d hd => by
              have h3 := hzz.out.2.2 hz5
              rw [List.take_of_length_le (by rw [List.length_map, hn.out]; exact Nat.le_refl _)] at h3
              obtain ⟨i, hi⟩ := List.mem_iff_getElem?.1 hd
              have := partsL_mem (its := ds.map Dc.t) (i := i) (u := d.t) (by rw [List.getElem?_map, hi]; rfl)
              omega)
            clear hlt hzz hPf
            go_wp2_with fail
            go_ret
            exact ⟨⟨_, rfl, hp.out⟩, hb.out⟩
          · have z2 : (5000 : Int) < z := by omega
            clear hlt hzz hPf
            go_wp2_with fail
            go_ret
            exact ⟨⟨_, rfl, hPt.out⟩, hb.out⟩
        · have hl' : (150 : Int) < (q : Int) := by omega
          clear hlt hzz hPf
          go_wp2_with fail
          go_ret
          exact ⟨⟨_, rfl, hPt.out⟩, hb.out⟩
/-- One box ahead of all else. -/
structure Bx1 (w : World) (b1 : Array Value) (wx : World) : Prop where
  below : Below w.heap.size w wx
  box1 : wx.heap[w.heap.size]? = some (.cells b1 25 (0, 0))
theorem Bx1.keep {w wx wy : World} {b1 : Array Value} (h : Bx1 w b1 wx) (hb : Below wx.heap.size wx wy) : Bx1 w b1 wy :=
  ⟨h.below.trans (hb.mono h.below.size), block_keep h.box1 hb⟩
/-- All as it was but for block b. -/
structure Fb (b : Nat) (w w' : World) : Prop where
  os : w'.os = w.os
  tape : w'.tape = w.tape
  output : w'.output = w.output
  size : w.heap.size ≤ w'.heap.size
  block : ∀ k, k < w.heap.size → k ≠ b → w'.heap[k]? = w.heap[k]?
theorem Fb.of_but {b : Nat} {w w' : World} (h : Sorted.But b w w') : Fb b w w' := ⟨h.os, h.tape, h.output, h.size, h.block⟩
theorem Fb.of_below {b : Nat} {w w' : World} (h : Below w.heap.size w w') : Fb b w w' := ⟨h.os, h.tape, h.output, h.size, fun k hk _ => h.block k hk⟩
theorem Fb.trans {b : Nat} {x y z : World} (h : Fb b x y) (k : Fb b y z) : Fb b x z :=
  ⟨k.os.trans h.os, k.tape.trans h.tape, k.output.trans h.output, Nat.le_trans h.size k.size, fun i hi hb => (k.block i (Nat.lt_of_lt_of_le hi h.size) hb).trans (h.block i hi hb)⟩
theorem Fb.below {b B : Nat} {w w' : World} (h : Fb b w w') (hb : B ≤ b) (hB : B ≤ w.heap.size) : Below B w w' := ⟨h.os, h.tape, h.output, h.size, fun k hk => h.block k (by omega) (by omega)⟩
theorem Fb.grown {b g : Nat} {x y z : World} (h : Fb b x y) (k : y.grownBy z (some g)) (hg : g = b ∨ x.heap.size ≤ g) : Fb b x z :=
  ⟨k.os.trans h.os, k.tape.trans h.tape, k.output.trans h.output, Nat.le_trans h.size k.size, fun i hi hb => (k.block i (Nat.lt_of_lt_of_le hi h.size) (fun e => by injection e with e; rcases hg with hg | hg <;> omega)).trans (h.block i hi hb)⟩
theorem DocsAt.fb {b : Nat} {w w' : World} {a : Option Addr} {ds : List Dc} (h : DocsAt w a ds) (hne : ∀ g o, a = some ⟨g, o, none⟩ → g ≠ b) (hb : Fb b w w') : DocsAt w' a ds := fun i d hd => by
  obtain ⟨g, o, e, hc⟩ := h i d hd
  refine ⟨g, o, e, fun j u hj => (World.cell?_of_block (hb.block g (cell_lt (hc j u hj)) (hne g o e))).trans (hc j u hj)⟩
theorem DocsAt.lt {w : World} {a : Option Addr} {ds : List Dc} (h : DocsAt w a ds) {i : Nat} {d : Dc} (hd : ds[i]? = some d) {g o : Nat} (e : a = some ⟨g, o, none⟩) : g < w.heap.size := by
  obtain ⟨g', o', e', hc⟩ := h i d hd
  rw [e] at e'
  cases e'
  exact cell_lt (hc 0 (.string d.id) rfl)
theorem DocsAt.nil (w : World) (a : Option Addr) : DocsAt w a [] := fun i d h => by simp at h
theorem docs_take {w : World} {a : Option Addr} {ds es : List Dc} (h : DocsAt w a (ds ++ es)) : DocsAt w a ds := fun i d hd => h i d (by rw [List.getElem?_append_left (List.getElem?_eq_some_iff.1 hd).1]; exact hd)
/-- A document of an Id alone. -/
def idDoc (s : ByteArray) : Dc := ⟨s, 0, 0, 0, ⟨#[]⟩, none, 0, 0, none, 0, 0, nullT⟩
theorem blk_row {w : World} {b n : Nat} (h : Blk w b 50 (n * 7)) (hn : n ≤ 1000000) : ∃ xs, w.ownsRow 0 50 7 (.slice (some ⟨b, 0, none⟩) n n) n xs := by
  obtain ⟨cur, h1, h2⟩ := h
  exact ⟨cur.toList.take (n * 7), by rw [List.length_take, Array.length_toList, h2, Nat.min_self], .inr ⟨b, n, cur, rfl, Nat.zero_le _, h1, Nat.le_refl _, by unfold maxLen; omega, h2, rfl⟩⟩
theorem row_alloc {w : World} {base g n cap : Nat} {xs : List Value} (h : w.ownsRow base 50 7 (.slice (some ⟨g, 0, none⟩) n cap) n xs) (o : Obj) : (w.alloc o).ownsRow base 50 7 (.slice (some ⟨g, 0, none⟩) n cap) n xs := ownsRow_below h ((Below.refl _ w).alloc (Nat.le_refl _) o)
theorem doc_lies (w : World) (d : Dc) : CellsAt (w.alloc (.cells d.cells.toArray 50)) w.heap.size 0 d.cells := fun j u hj => by
  unfold World.cell?
  rw [heap_alloc_new w]
  simpa using hj
theorem DRow.ge {base : Nat} {w : World} {a : Option Addr} {n c : Nat} {ls : List Dc} (h : DRow base w (.slice a n c) ls) {g o : Nat} (e : a = some ⟨g, o, none⟩) : base ≤ g := by
  subst e
  exact (ownsRow_ge h (g := g) rfl).1
theorem DRow.lt {base : Nat} {w : World} {a : Option Addr} {n c : Nat} {ls : List Dc} (h : DRow base w (.slice a n c) ls) {g o : Nat} (e : a = some ⟨g, o, none⟩) : g < w.heap.size := by
  subst e
  exact (ownsRow_ge h (g := g) rfl).2
end Go.Proofs.YtkgcmcpakilacaaGreat.Tree
