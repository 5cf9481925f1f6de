import Derived.Test.YtgjemghfejaifaaGreatDoorSI
import Derived.Test.YtgjemghfejaifaaGreatDoorH1
/-! schema: the maker of additional. -/
namespace Go.Proofs.YtgjemghfejaifaaGreatDoor
open Go Go.RowKit

def addZ (k : Int) : Int := if k = 1 ∨ k = 2 then 0 else 210
theorem SmallL.mem : {its : List Tr} → {t : Tr} → SmallL its → t ∈ its → SmallT t
  | [], _, _, h => by simp at h
  | u :: us, t, h, hm => by
    unfold SmallL at h
    rcases List.mem_cons.1 hm with rfl | hm
    · exact h.1
    · exact SmallL.mem h.2 hm
theorem small_zero : SmallT zeroT := by
  unfold zeroT SmallT SmallL
  exact ⟨by decide, by decide, by simp, by decide, trivial⟩
theorem small_has {t : Tr} (h : SmallT t) (nm : ByteArray) : SmallT ((hasO t nm).getD zeroT) := by
  obtain ⟨k, x, s, ns, its⟩ := t
  unfold SmallT at h
  cases e : hasO (.node k x s ns its) nm with
  | none => exact small_zero
  | some u =>
    simp only [hasO] at e
    by_cases hc : k = 6 ∧ 0 ≤ Lib.idxOfS ns nm
    · rw [if_pos hc] at e
      exact SmallL.mem h.2.2.2.2 (List.mem_of_getElem? e)
    · rw [if_neg hc] at e
      cases e
theorem rep_names {w : World} {t : Tr} {v : V5} (h : VRep w t v.cs) : Reads w (.slice v.an v.ln v.cn) t.names ∧ v.ln = t.names.length := by
  obtain ⟨k, x, s, ns, is⟩ := t
  unfold VRep V5.cs five at h
  obtain ⟨nm, a, c, e, h2, -⟩ := h
  simp only [List.cons.injEq] at e
  obtain ⟨-, -, -, e1, -⟩ := e
  rw [e1]
  obtain ⟨a', c', e2, -⟩ := id h2
  rw [← e1] at e2
  simp only [Value.slice.injEq] at e2
  exact ⟨h2, e2.2.1⟩
set_option maxHeartbeats 4000000 in
set_option maxRecDepth 100000 in
theorem additional_any (r : Value) (u b : V5) (d : Nat) (bt : Tr) (w : World) (hV : Hid (VRep w bt b.cs)) (hS : Hid (SmallT bt)) :
    Calls Tryz.prog 32 #[r, givenV u b d] w (TypePost w (addZ u.k)) := by
  have hB0 := hid_of ((Below.refl _ w).alloc (Nat.le_refl _) (givenO u b d))
  obtain ⟨x0, x1, x2, x3, x4, x5, x6, x7, x8, x9, x10⟩ := givenO_cells (heap_alloc_new w (givenO u b d))
  have hhas := hid_of (has_code bt b.k b.x b.s b.an b.ln b.cn b.ai b.li b.ci wProperties (w.alloc (givenO u b d)) (VRep.keep hB0.out _ _ hV.out))
  obtain ⟨z, hz⟩ : ∃ z, Hid (addZ u.k = z) := ⟨_, rfl⟩
  rw [hz.out]
  unfold givenO at *
  unfold givenV
  unfold wProperties at hhas
  go_enter Tryz.func32, Tryz.ntmps32
  by_cases h2 : u.k = 2
  · have e2 : (u.k == 2) = true := by simp [h2]
    have hz2 : Hid (z = 0) := by rw [Hid, ← hz.out]; unfold addZ; simp [h2]
    clear h2 hz
    go_wp2_with fail
    go_ret2
    exact ⟨_, _, rfl, hz2.out.symm, hB0.out, by first | exact fun _ => ⟨_, _, rfl⟩ | (intro e; cases e)⟩
  have e2 : (u.k == 2) = false := by simpa using h2
  by_cases h1 : u.k = 1
  · have e1 : (u.k == 1) = true := by simp [h1]
    have hz2 : Hid (z = 0) := by rw [Hid, ← hz.out]; unfold addZ; simp [h1]
    clear h2 h1 hz
    go_wp2_with fail
    generalize w.alloc (.cells #[.int .i64 u.k, .int .i64 u.x, .string u.s, .slice u.an u.ln u.cn, .slice u.ai u.li u.ci, .int .i64 b.k, .int .i64 b.x, .string b.s, .slice b.an b.ln b.cn, .slice b.ai b.li b.ci, .int .i64 (d : Int)] 82) = X at *
    refine hhas.out.mono ?_
    rintro e W ⟨k, x, s, an, ln, cn, ai, li, ci, rfl, hR, hB⟩
    obtain ⟨hn1, hn2⟩ := rep_names (v := ⟨k, x, s, an, ln, cn, ai, li, ci⟩) hR
    have hsm := small_has hS.out ⟨#[112, 114, 111, 112, 101, 114, 116, 105, 101, 115]⟩
    have hB1 := hid_of (hB0.out.trans (hB.mono hB0.out.size))
    obtain ⟨ns, hns⟩ : ∃ ns, Hid (((hasO bt ⟨#[112, 114, 111, 112, 101, 114, 116, 105, 101, 115]⟩).getD zeroT).names = ns) := ⟨_, rfl⟩
    have hsm2 : Hid (ns.length ≤ 8796093021952 ∧ ∀ n ∈ ns, n.size ≤ 140737488351232) := by
      rw [← hns.out]
      generalize (hasO bt ⟨#[112, 114, 111, 112, 101, 114, 116, 105, 101, 115]⟩).getD zeroT = q at hsm
      obtain ⟨k, x, s, ns, its⟩ := q
      unfold SmallT at hsm
      exact ⟨by show ns.length ≤ _; omega, hsm.2.2.1⟩
    rw [hns.out] at hn1 hn2
    simp only at hn1 hn2
    subst hn2
    have hnum := fun o => hid_of (numbered_any an cn ns (W.alloc o) (hid_of (hn1.keep ((Below.refl _ W).alloc (Nat.le_refl _) o))) hsm2.out.2 hsm2.out.1)
    have hB2 := fun o => hid_of (hB1.out.alloc hB1.out.size o)
    clear hR hB hn1 hsm hns x0 x1 x2 x3 x4 x5 x6 x7 x8 x9 x10 hhas
    go_wp2_with fail
    refine (hnum _).out.mono ?_
    rintro e W2 ⟨m, rfl, -, -, hb⟩
    have hB3 := hid_of ((hB2 _).out.trans (hb.mono (hB2 _).out.size))
    clear hb hnum hB2
    go_wp2_with fail
    go_ret2
    exact ⟨_, _, rfl, hz2.out.symm, hB3.out, by first | exact fun _ => ⟨_, _, rfl⟩ | (intro e; cases e)⟩
  · have e1 : (u.k == 1) = false := by simpa using h1
    have hz2 : Hid (z = 210) := by rw [Hid, ← hz.out]; unfold addZ; simp [h1, h2]
    clear h2 h1 hz
    go_wp2_with fail
    go_ret2
    exact ⟨_, _, rfl, hz2.out.symm, hB0.out, by first | exact fun _ => ⟨_, _, rfl⟩ | (intro e; cases e)⟩
end Go.Proofs.YtgjemghfejaifaaGreatDoor
