import Derived.Test.YtmlbofbnklmedaaO2
import Derived.Deep.DeepCutAuto
/-! Two Sets, in one order and the other: the walk. -/
namespace Go.Proofs.Ytmlbofbnklmedaa
open Go Go.RowKit

mutual
/-- No value has more items. -/
def WideT (n : Nat) : Tr → Prop
  | .node _ _ _ _ its => its.length ≤ n ∧ WideL n its
def WideL (n : Nat) : List Tr → Prop
  | [] => True
  | t :: ts => WideT n t ∧ WideL n ts
end
theorem wideL_iff (n : Nat) : (its : List Tr) → (WideL n its ↔ ∀ u ∈ its, WideT n u)
  | [] => by simp [WideL]
  | t :: ts => by unfold WideL; rw [wideL_iff n ts]; simp
theorem small_wide (t : Tr) : SmallT t → WideT 1759218604390 t := by
  refine Tr.rec (motive_1 := fun t => SmallT t → WideT 1759218604390 t) (motive_2 := fun l => SmallL l → WideL 1759218604390 l) ?_ ?_ ?_ t
  · intro k x s ns its ih h
    unfold SmallT at h
    unfold WideT
    exact ⟨by omega, ih h.2.2.2.2⟩
  · intro _; unfold WideL; trivial
  · intro t ts h1 h2 h
    unfold SmallL at h
    unfold WideL
    exact ⟨h1 h.1, h2 h.2⟩
theorem wide_more {n : Nat} (t : Tr) : WideT n t → WideT (n + 1) t := by
  refine Tr.rec (motive_1 := fun t => WideT n t → WideT (n + 1) t) (motive_2 := fun l => WideL n l → WideL (n + 1) l) ?_ ?_ ?_ t
  · intro k x s ns its ih h
    unfold WideT at *
    exact ⟨by omega, ih h.2⟩
  · intro _; unfold WideL; trivial
  · intro t ts h1 h2 h
    unfold WideL at h ⊢
    exact ⟨h1 h.1, h2 h.2⟩
theorem wide_empty (n : Nat) : WideT n emptyO := by unfold emptyO WideT WideL; simp
theorem wide_item {n : Nat} {t : Tr} {s : ByteArray} (h : WideT n t) : WideT n (itemOr t s) := by
  unfold itemOr
  split
  · rename_i i _
    obtain ⟨k, x, tx, ns, its⟩ := t
    unfold WideT at h
    rw [List.getD_eq_getElem?_getD]
    cases hg : (Tr.node k x tx ns its).items[i]? with
    | none => exact wide_empty n
    | some u => exact (wideL_iff n its).1 h.2 u (List.mem_of_getElem? hg)
  · exact wide_empty n
theorem wide_with {n : Nat} {k : Int} {ns : List ByteArray} {its : List Tr} {s : ByteArray} {m : Nat} {u : Tr} (h : its.length ≤ n) (hw : ∀ v ∈ its, WideT n v) (hu : WideT (n + 1) u) : WideT (n + 1) (withT k ns its s m u) := by
  have hk : (keepIts k ns its).length ≤ n ∧ ∀ v ∈ keepIts k ns its, WideT (n + 1) v := by
    unfold keepIts
    split
    · exact ⟨by rw [List.length_take]; omega, fun v hv => wide_more v (hw v (List.mem_of_mem_take hv))⟩
    · exact ⟨h, fun v hv => wide_more v (hw v hv)⟩
  unfold withT
  split
  · unfold WideT
    refine ⟨by rw [List.length_set]; omega, (wideL_iff _ _).2 fun v hv => ?_⟩
    rcases List.mem_or_eq_of_mem_set hv with hv | rfl
    · exact hk.2 v hv
    · exact hu
  · unfold WideT
    refine ⟨by simp; omega, (wideL_iff _ _).2 fun v hv => ?_⟩
    rcases List.mem_append.1 hv with hv | hv
    · exact hk.2 v hv
    · rw [List.mem_singleton.1 hv]; exact hu
theorem wide_put {n : Nat} {t u : Tr} {s : ByteArray} (h : WideT n t) (hu : WideT (n + 1) u) : WideT (n + 1) (putT t s u) := by
  obtain ⟨k, x, tx, ns, its⟩ := t
  unfold WideT at h
  exact wide_with h.1 ((wideL_iff n its).1 h.2) hu
theorem wide_rset {n : Nat} {X : Tr} (hX : WideT (n + 1) X) : (l : List ByteArray) → (t a : Tr) → WideT n t → rsetT l t X = some a → WideT (n + 1) a
  | [], t, a, _, h => by simp [rsetT] at h; subst h; exact hX
  | s :: r, t, a, ht, h => by
    obtain ⟨_, u, h1, rfl⟩ := rset_cons h
    exact wide_put ht (wide_rset hX r _ u (wide_item ht) h1)
theorem wide_down {n : Nat} : (l : List ByteArray) → (t : Tr) → WideT n t → ∀ st ∈ (downT t l).2, st.1.items.length ≤ n
  | [], t, _ => by cases t; simp [downT]
  | s :: r, t, ht => by
    have htl : t.items.length ≤ n := by cases t; unfold WideT at ht; exact ht.1
    rw [downT]
    split
    · split
      · simp
      · rename_i u hu
        have hw : WideT n u := by
          obtain ⟨k, x, tx, ns, its⟩ := t
          unfold WideT at ht
          exact (wideL_iff n its).1 ht.2 u (List.mem_of_getElem? hu)
        have ih := wide_down r u hw
        split
        · intro st hst
          rcases List.mem_cons.1 hst with rfl | hst
          · exact htl
          · exact ih st hst
        · exact ih
    · split
      · intro st hst
        rw [List.mem_singleton.1 hst]
        exact htl
      · split <;> simp
theorem clash_comm : (A B : List ByteArray) → clashT A B = clashT B A
  | [], [] => rfl
  | [], _ :: _ => rfl
  | _ :: _, [] => rfl
  | a :: A, b :: B => by
    rw [clashT, clashT, clash_comm A B]
    congr 1
    exact decide_eq_decide.2 eq_comm
def zeroT : Tr := .node 0 0 ⟨#[]⟩ [] []
theorem zeroT_rep (w : World) : VRep w zeroT (five 0 0 ⟨#[]⟩ (.slice none 0 0) (.slice none 0 0)) := by
  unfold zeroT VRep
  exact ⟨_, _, 0, rfl, ⟨_, 0, rfl, ⟨Nat.le_refl _, by omega⟩, .inl rfl⟩, ⟨Nat.le_refl _, by omega⟩, .inl rfl⟩
/-- What Set answers, also where it fails. -/
def setR (t : Tr) (l : List ByteArray) (X : Tr) : Tr := if (downT t l).1 = 0 then setT t l X else zeroT
theorem setR_some {t X : Tr} {l : List ByteArray} (h : (downT t l).1 = 0) : rsetT l t X = some (setR t l X) := by
  unfold setR; rw [if_pos h]; exact rset_down X l t h
theorem wide_setR {n : Nat} {t X : Tr} {l : List ByteArray} (ht : WideT n t) (hX : WideT (n + 1) X) : WideT (n + 1) (setR t l X) := by
  by_cases h : (downT t l).1 = 0
  · exact wide_rset hX l t _ ht (setR_some h)
  · unfold setR; rw [if_neg h]; unfold zeroT WideT WideL; simp
theorem setR_any (t X : Tr) (kc xc : Int) (sc : ByteArray) (anc : Option Addr) (lnc cnc : Nat) (aic : Option Addr) (lic cic : Nat) (kx xx : Int) (sx : ByteArray) (anx : Option Addr) (lnx cnx : Nat) (aix : Option Addr) (lix cix : Nat) (pv : Value) (l : List ByteArray) (w : World) (hV : VRep w t (five kc xc sc (.slice anc lnc cnc) (.slice aic lic cic))) (hX : VRep w X (five kx xx sx (.slice anx lnx cnx) (.slice aix lix cix))) (hP : Reads w pv l) (hl : l.length ≤ 1000) (hS : Sized l) (hb : WideT 1759218604391 t) :
    Calls Try.prog 10 #[.agg #[.int .i64 kc, .int .i64 xc, .string sc, .slice anc lnc cnc, .slice aic lic cic], pv, .agg #[.int .i64 kx, .int .i64 xx, .string sx, .slice anx lnx cnx, .slice aix lix cix]] w fun e w' => ∃ k x s an ln cn ai li ci, e = .returned (.tuple #[.agg #[.int .i64 k, .int .i64 x, .string s, .slice an ln cn, .slice ai li ci], .int .i64 (downT t l).1]) ∧ VRep w' (setR t l X) (five k x s (.slice an ln cn) (.slice ai li ci)) ∧ Below w.heap.size w w' := by
  refine (set_any t X _ _ pv l w hV hX hP (by omega) (hid_f hS) (fun st hst => by have := wide_down l t hb st hst; omega)).mono ?_
  rintro e w' ⟨hbl, ⟨hd, rfl⟩ | ⟨hd, cs, rfl, hR⟩⟩
  · exact ⟨0, 0, ⟨#[]⟩, none, 0, 0, none, 0, 0, rfl, by unfold setR; rw [if_neg hd]; exact zeroT_rep w', hbl⟩
  · obtain ⟨k, x, s, an, ln, cn, ai, li, ci, rfl⟩ := vrep_five hR
    exact ⟨k, x, s, an, ln, cn, ai, li, ci, by rw [hd]; rfl, by unfold setR; rw [if_pos hd]; exact hR, hbl⟩
theorem getR_any (t : Tr) (kc xc : Int) (sc : ByteArray) (anc : Option Addr) (lnc cnc : Nat) (aic : Option Addr) (lic cic : Nat) (pv : Value) (l : List ByteArray) (w : World) (hV : VRep w t (five kc xc sc (.slice anc lnc cnc) (.slice aic lic cic))) (hP : Reads w pv l) (hl : l.length ≤ 1000) (hS : Sized l) :
    Calls Try.prog 12 #[.agg #[.int .i64 kc, .int .i64 xc, .string sc, .slice anc lnc cnc, .slice aic lic cic], pv] w fun e w' => ∃ k x s an ln cn ai li ci, e = .returned (.tuple #[.agg #[.int .i64 k, .int .i64 x, .string s, .slice an ln cn, .slice ai li ci], .bool (getT t l).isSome]) ∧ VRep w' ((getT t l).getD zeroT) (five k x s (.slice an ln cn) (.slice ai li ci)) ∧ Below w.heap.size w w' := by
  refine (get_any t _ pv l w hV hP (by omega) (hid_f hS)).mono ?_
  rintro e w' ⟨hbl, hg⟩
  cases h : getT t l with
  | none =>
    rw [h] at hg
    exact ⟨0, 0, ⟨#[]⟩, none, 0, 0, none, 0, 0, hg, zeroT_rep w', hbl⟩
  | some u =>
    rw [h] at hg
    obtain ⟨cs, rfl, hR⟩ := hg
    obtain ⟨k, x, s, an, ln, cn, ai, li, ci, rfl⟩ := vrep_five hR
    exact ⟨k, x, s, an, ln, cn, ai, li, ci, rfl, hR, hbl⟩
theorem got_sim {a b : Option Tr} (h : GotSim a b) : a.isSome = b.isSome ∧ Sim (a.getD zeroT) (b.getD zeroT) := by
  cases a <;> cases b
  · exact ⟨rfl, sim_refl _ (by unfold zeroT KnownT KnownL; exact ⟨fun _ => rfl, uniq_nil, trivial⟩)⟩
  · exact absurd h id
  · exact absurd h id
  · exact ⟨rfl, h⟩
/-- All four Sets were done, and what is asked is alike. -/
theorem order_alike {V X Y : Tr} {A B K : List ByteArray} (hV : KnownT V) (hX : KnownT X) (hY : KnownT Y) (hc : clashT A B = false) (h1 : (downT V A).1 = 0) (h2 : (downT (setR V A X) B).1 = 0) (h3 : (downT V B).1 = 0) (h4 : (downT (setR V B Y) A).1 = 0) :
    (getT (setR (setR V A X) B Y) K).isSome = (getT (setR (setR V B Y) A X) K).isSome ∧ Sim ((getT (setR (setR V A X) B Y) K).getD zeroT) ((getT (setR (setR V B Y) A X) K).getD zeroT) := by
  have e1 := setR_some (X := X) h1
  have e2 := setR_some (X := Y) h2
  have e3 := setR_some (X := Y) h3
  have e4 := setR_some (X := X) h4
  have k1 := rset_known X hX A _ _ hV e1
  have k2 := rset_known Y hY B _ _ k1 e2
  have k3 := rset_known Y hY B _ _ hV e3
  have k4 := rset_known X hX A _ _ k3 e4
  exact got_sim (get_sim K _ _ k2 k4 (order_pure hX hY A B hc V _ _ _ _ hV e1 e2 e3 e4) (order_pure hY hX B A (by rw [clash_comm]; exact hc) V _ _ _ _ hV e3 e4 e1 e2))
/-- What was handed in. -/
structure Ord (w : World) (b : Array Value) (wx : World) : Prop where
  below : Below w.heap.size w wx
  box : wx.heap[w.heap.size]? = some (.cells b 27 (0, 0))
theorem Ord.keep {w wx wy : World} {b : Array Value} (h : Ord w b wx) (hb : Below wx.heap.size wx wy) : Ord w b wy :=
  ⟨h.below.trans (hb.mono h.below.size), (hb.block _ (Array.getElem?_eq_some_iff.1 h.box).1).trans h.box⟩
theorem Ord.cell {w wx : World} {b : Array Value} (h : Ord w b wx) {j : Nat} {u : Value} (hj : b[j]? = some u) : wx.cell? ⟨w.heap.size, j, none⟩ = some u := by
  have := h.box
  simp [World.cell?, this, hj]
theorem block_keep {w wx : World} {g : Nat} {o : Obj} (h : w.heap[g]? = some o) (hb : Below w.heap.size w wx) : wx.heap[g]? = some o := (hb.block _ (Array.getElem?_eq_some_iff.1 h).1).trans h
/-- The answer of the first look. -/
def Looked (P : Prop) (v : Value) : Prop := ∃ z, v = .bool z ∧ (z = false → P)
theorem looked_ne {P : Prop} {d : Int} (h : ¬ d = 0) : Looked P (.bool (d != 0)) := ⟨_, rfl, fun e => absurd (by simpa using e) h⟩
theorem looked_yes {P : Prop} : Looked P (.bool true) := ⟨true, rfl, fun h => by cases h⟩

set_option maxHeartbeats 4000000 in
set_option maxRecDepth 100000 in
theorem order_true (k1 x1 : Int) (s1 : ByteArray) (an1 : Option Addr) (ln1 cn1 : Nat) (ai1 : Option Addr) (li1 ci1 : Nat) (k2 x2 : Int) (s2 : ByteArray) (an2 : Option Addr) (ln2 cn2 : Nat) (ai2 : Option Addr) (li2 ci2 : Nat) (k3 x3 : Int) (s3 : ByteArray) (an3 : Option Addr) (ln3 cn3 : Nat) (ai3 : Option Addr) (li3 ci3 : Nat) (pa : Option Addr) (ca : Nat) (pb : Option Addr) (cb : Nat) (pk : Option Addr) (ck : Nat) (V X Y : Tr) (A B K : List ByteArray) (w : World)
    (hV : Hid (VRep w V (five k1 x1 s1 (.slice an1 ln1 cn1) (.slice ai1 li1 ci1)))) (hX : Hid (VRep w X (five k2 x2 s2 (.slice an2 ln2 cn2) (.slice ai2 li2 ci2)))) (hY : Hid (VRep w Y (five k3 x3 s3 (.slice an3 ln3 cn3) (.slice ai3 li3 ci3)))) (hsV : Hid (SmallT V)) (hsX : Hid (SmallT X)) (hA : Hid (Reads w (.slice pa A.length ca) A)) (hB : Hid (Reads w (.slice pb B.length cb) B)) (hK : Hid (Reads w (.slice pk K.length ck) K)) (zA : Hid (Sized A)) (zB : Hid (Sized B)) (zK : Hid (Sized K)) (hsY : Hid (SmallT Y)) :
    Calls Try.prog 3 #[.agg #[.int .i64 k1, .int .i64 x1, .string s1, .slice an1 ln1 cn1, .slice ai1 li1 ci1, .slice pa A.length ca, .slice pb B.length cb, .int .i64 k2, .int .i64 x2, .string s2, .slice an2 ln2 cn2, .slice ai2 li2 ci2, .int .i64 k3, .int .i64 x3, .string s3, .slice an3 ln3 cn3, .slice ai3 li3 ci3, .slice pk K.length ck]] w fun e w' => e = .returned (.bool true) ∧ Below w.heap.size w w' := by
  have lA := hA.out.len
  have lB := hB.out.len
  have lK := hK.out.len
  have hlg : ∀ o p, Hid (Calls Try.prog 6 #[.slice (some ⟨w.heap.size + 1, 0, none⟩) 3 3] ((w.alloc o).alloc (.cells #[.int .i64 k1, .int .i64 x1, .string s1, .slice an1 ln1 cn1, .slice ai1 li1 ci1, .int .i64 k2, .int .i64 x2, .string s2, .slice an2 ln2 cn2, .slice ai2 li2 ci2, .int .i64 k3, .int .i64 x3, .string s3, .slice an3 ln3 cn3, .slice ai3 li3 ci3] p)) fun e w' => (∃ z, e = .returned (.bool z)) ∧ Below ((w.alloc o).alloc (.cells #[.int .i64 k1, .int .i64 x1, .string s1, .slice an1 ln1 cn1, .slice ai1 li1 ci1, .int .i64 k2, .int .i64 x2, .string s2, .slice an2 ln2 cn2, .slice ai2 li2 ci2, .int .i64 k3, .int .i64 x3, .string s3, .slice an3 ln3 cn3, .slice ai3 li3 ci3] p)).heap.size ((w.alloc o).alloc (.cells #[.int .i64 k1, .int .i64 x1, .string s1, .slice an1 ln1 cn1, .slice ai1 li1 ci1, .int .i64 k2, .int .i64 x2, .string s2, .slice an2 ln2 cn2, .slice ai2 li2 ci2, .int .i64 k3, .int .i64 x3, .string s3, .slice an3 ln3 cn3, .slice ai3 li3 ci3] p)) w') := fun o p => hid_f (large_any [V, X, Y] (w.heap.size + 1) 0 3 _ (by simp) (fun _ => by simp) (hid_f (by
    have hcell : ∀ j, ((w.alloc o).alloc (.cells #[.int .i64 k1, .int .i64 x1, .string s1, .slice an1 ln1 cn1, .slice ai1 li1 ci1, .int .i64 k2, .int .i64 x2, .string s2, .slice an2 ln2 cn2, .slice ai2 li2 ci2, .int .i64 k3, .int .i64 x3, .string s3, .slice an3 ln3 cn3, .slice ai3 li3 ci3] p)).cell? ⟨w.heap.size + 1, j, none⟩ = (#[.int .i64 k1, .int .i64 x1, .string s1, .slice an1 ln1 cn1, .slice ai1 li1 ci1, .int .i64 k2, .int .i64 x2, .string s2, .slice an2 ln2 cn2, .slice ai2 li2 ci2, .int .i64 k3, .int .i64 x3, .string s3, .slice an3 ln3 cn3, .slice ai3 li3 ci3] : Array Value)[j]? := fun j => by
      unfold World.cell?
      rw [new2 w o (.cells #[.int .i64 k1, .int .i64 x1, .string s1, .slice an1 ln1 cn1, .slice ai1 li1 ci1, .int .i64 k2, .int .i64 x2, .string s2, .slice an2 ln2 cn2, .slice ai2 li2 ci2, .int .i64 k3, .int .i64 x3, .string s3, .slice an3 ln3 cn3, .slice ai3 li3 ci3] p)]
      rfl
    unfold VRepL VRepL VRepL VRepL
    refine ⟨(five k1 x1 s1 (.slice an1 ln1 cn1) (.slice ai1 li1 ci1)), fun j u hj => ?_, VRep.keep (below_two w _ _) _ _ hV.out, (five k2 x2 s2 (.slice an2 ln2 cn2) (.slice ai2 li2 ci2)), fun j u hj => ?_, VRep.keep (below_two w _ _) _ _ hX.out, (five k3 x3 s3 (.slice an3 ln3 cn3) (.slice ai3 li3 ci3)), fun j u hj => ?_, VRep.keep (below_two w _ _) _ _ hY.out, trivial⟩
    all_goals
      rw [hcell]
      have hj5 := (List.getElem?_eq_some_iff.1 hj).1
      simp only [five, List.length_cons, List.length_nil] at hj5
      match j, hj5 with
      | 0, _ => exact hj
      | 1, _ => exact hj
      | 2, _ => exact hj
      | 3, _ => exact hj
      | 4, _ => exact hj)))
  have hcl := fun W (hW : Below w.heap.size w W) => hid_f (rclash_any pa ca pb cb A B W (hid_f (hA.out.keep hW)) (hid_f (hB.out.keep hW)))
  have hk1 := fun W (hW : Below w.heap.size w W) => hid_f (known_any V _ W (VRep.keep hW _ _ hV.out))
  have hk2 := fun W (hW : Below w.heap.size w W) => hid_f (known_any X _ W (VRep.keep hW _ _ hX.out))
  have hk3 := fun W (hW : Below w.heap.size w W) => hid_f (known_any Y _ W (VRep.keep hW _ _ hY.out))
  go_enter Try.func3, Try.ntmps3
  go_upto_region 1 with fail
  go_cut [65] (fun v wx => Looked (A.length ≤ 1000 ∧ B.length ≤ 1000 ∧ K.length ≤ 1000 ∧ clashT A B = false ∧ KnownT V ∧ KnownT X ∧ KnownT Y) v ∧ Ord w #[.int .i64 k1, .int .i64 x1, .string s1, .slice an1 ln1 cn1, .slice ai1 li1 ci1, .slice pa A.length ca, .slice pb B.length cb, .int .i64 k2, .int .i64 x2, .string s2, .slice an2 ln2 cn2, .slice ai2 li2 ci2, .int .i64 k3, .int .i64 x3, .string s3, .slice an3 ln3 cn3, .slice ai3 li3 ci3, .slice pk K.length ck] wx)
  case first =>
    go_wp2_with fail
    go_fit (hlg _ _).out
    rintro e X0 ⟨⟨z, rfl⟩, hb⟩
    have hT0 : Ord w #[.int .i64 k1, .int .i64 x1, .string s1, .slice an1 ln1 cn1, .slice ai1 li1 ci1, .slice pa A.length ca, .slice pb B.length cb, .int .i64 k2, .int .i64 x2, .string s2, .slice an2 ln2 cn2, .slice ai2 li2 ci2, .int .i64 k3, .int .i64 x3, .string s3, .slice an3 ln3 cn3, .slice ai3 li3 ci3, .slice pk K.length ck] X0 := ⟨(below_two w _ _).trans (hb.mono (by simp only [World.size_alloc]; omega)), (hb.block _ (by simp only [World.size_alloc]; omega)).trans (new1 w _ _)⟩
    clear hb hlg
    cases z
    · have c0 := Ord.cell hT0 (j := 0) rfl
      have c1 := Ord.cell hT0 (j := 1) rfl
      have c2 := Ord.cell hT0 (j := 2) rfl
      have c3 := Ord.cell hT0 (j := 3) rfl
      have c4 := Ord.cell hT0 (j := 4) rfl
      have c5 := Ord.cell hT0 (j := 5) rfl
      have c6 := Ord.cell hT0 (j := 6) rfl
      have c7 := Ord.cell hT0 (j := 7) rfl
      have c8 := Ord.cell hT0 (j := 8) rfl
      have c9 := Ord.cell hT0 (j := 9) rfl
      have c10 := Ord.cell hT0 (j := 10) rfl
      have c11 := Ord.cell hT0 (j := 11) rfl
      have c12 := Ord.cell hT0 (j := 12) rfl
      have c13 := Ord.cell hT0 (j := 13) rfl
      have c14 := Ord.cell hT0 (j := 14) rfl
      have c15 := Ord.cell hT0 (j := 15) rfl
      have c16 := Ord.cell hT0 (j := 16) rfl
      have c17 := Ord.cell hT0 (j := 17) rfl
      by_cases h0 : 1000 < A.length
      · have d0 : decide ((1000 : Int) < (A.length : Int)) = true := by simp; omega
        go_wp2_with fail
        go_meet
        exact ⟨looked_yes, hT0⟩
      · have d0 : decide ((1000 : Int) < (A.length : Int)) = false := by simp; omega
        by_cases h1 : 1000 < B.length
        · have d1 : decide ((1000 : Int) < (B.length : Int)) = true := by simp; omega
          go_wp2_with fail
          go_meet
          exact ⟨looked_yes, hT0⟩
        · have d1 : decide ((1000 : Int) < (B.length : Int)) = false := by simp; omega
          by_cases h2 : 1000 < K.length
          · have d2 : decide ((1000 : Int) < (K.length : Int)) = true := by simp; omega
            go_wp2_with fail
            go_meet
            exact ⟨looked_yes, hT0⟩
          · have d2 : decide ((1000 : Int) < (K.length : Int)) = false := by simp; omega
            go_wp2_with fail
            go_fit (hcl _ hT0.below).out
            rintro e X3 ⟨rfl, hb⟩
            have hT3 := hT0.keep hb
            clear hb c0 c1 c2 c3 c4 c5 c6 c7 c8 c9 c10 c11 c12 c13 c14 c15 c16 c17
            obtain ⟨zc, hzc⟩ : ∃ z, Hid (clashT A B = z) := ⟨_, hid_f rfl⟩
            rw [hzc.out]
            cases zc
            · have c0 := Ord.cell hT3 (j := 0) rfl
              have c1 := Ord.cell hT3 (j := 1) rfl
              have c2 := Ord.cell hT3 (j := 2) rfl
              have c3 := Ord.cell hT3 (j := 3) rfl
              have c4 := Ord.cell hT3 (j := 4) rfl
              have c5 := Ord.cell hT3 (j := 5) rfl
              have c6 := Ord.cell hT3 (j := 6) rfl
              have c7 := Ord.cell hT3 (j := 7) rfl
              have c8 := Ord.cell hT3 (j := 8) rfl
              have c9 := Ord.cell hT3 (j := 9) rfl
              have c10 := Ord.cell hT3 (j := 10) rfl
              have c11 := Ord.cell hT3 (j := 11) rfl
              have c12 := Ord.cell hT3 (j := 12) rfl
              have c13 := Ord.cell hT3 (j := 13) rfl
              have c14 := Ord.cell hT3 (j := 14) rfl
              have c15 := Ord.cell hT3 (j := 15) rfl
              have c16 := Ord.cell hT3 (j := 16) rfl
              have c17 := Ord.cell hT3 (j := 17) rfl
              go_wp2_with fail
              go_fit (hk1 _ hT3.below).out
              rintro e X4 ⟨⟨z4, rfl, q4⟩, hb⟩
              have hT4 := hT3.keep hb
              clear hb c0 c1 c2 c3 c4 c5 c6 c7 c8 c9 c10 c11 c12 c13 c14 c15 c16 c17
              cases z4
              · clear q4
                go_wp2_with fail
                go_meet
                exact ⟨looked_yes, hT4⟩
              · replace q4 := hid_f (q4 rfl)
                have c0 := Ord.cell hT4 (j := 0) rfl
                have c1 := Ord.cell hT4 (j := 1) rfl
                have c2 := Ord.cell hT4 (j := 2) rfl
                have c3 := Ord.cell hT4 (j := 3) rfl
                have c4 := Ord.cell hT4 (j := 4) rfl
                have c5 := Ord.cell hT4 (j := 5) rfl
                have c6 := Ord.cell hT4 (j := 6) rfl
                have c7 := Ord.cell hT4 (j := 7) rfl
                have c8 := Ord.cell hT4 (j := 8) rfl
                have c9 := Ord.cell hT4 (j := 9) rfl
                have c10 := Ord.cell hT4 (j := 10) rfl
                have c11 := Ord.cell hT4 (j := 11) rfl
                have c12 := Ord.cell hT4 (j := 12) rfl
                have c13 := Ord.cell hT4 (j := 13) rfl
                have c14 := Ord.cell hT4 (j := 14) rfl
                have c15 := Ord.cell hT4 (j := 15) rfl
                have c16 := Ord.cell hT4 (j := 16) rfl
                have c17 := Ord.cell hT4 (j := 17) rfl
                go_wp2_with fail
                go_fit (hk2 _ hT4.below).out
                rintro e X5 ⟨⟨z5, rfl, q5⟩, hb⟩
                have hT5 := hT4.keep hb
                clear hb c0 c1 c2 c3 c4 c5 c6 c7 c8 c9 c10 c11 c12 c13 c14 c15 c16 c17
                cases z5
                · clear q5
                  go_wp2_with fail
                  go_meet
                  exact ⟨looked_yes, hT5⟩
                · replace q5 := hid_f (q5 rfl)
                  have c0 := Ord.cell hT5 (j := 0) rfl
                  have c1 := Ord.cell hT5 (j := 1) rfl
                  have c2 := Ord.cell hT5 (j := 2) rfl
                  have c3 := Ord.cell hT5 (j := 3) rfl
                  have c4 := Ord.cell hT5 (j := 4) rfl
                  have c5 := Ord.cell hT5 (j := 5) rfl
                  have c6 := Ord.cell hT5 (j := 6) rfl
                  have c7 := Ord.cell hT5 (j := 7) rfl
                  have c8 := Ord.cell hT5 (j := 8) rfl
                  have c9 := Ord.cell hT5 (j := 9) rfl
                  have c10 := Ord.cell hT5 (j := 10) rfl
                  have c11 := Ord.cell hT5 (j := 11) rfl
                  have c12 := Ord.cell hT5 (j := 12) rfl
                  have c13 := Ord.cell hT5 (j := 13) rfl
                  have c14 := Ord.cell hT5 (j := 14) rfl
                  have c15 := Ord.cell hT5 (j := 15) rfl
                  have c16 := Ord.cell hT5 (j := 16) rfl
                  have c17 := Ord.cell hT5 (j := 17) rfl
                  go_wp2_with fail
                  go_fit (hk3 _ hT5.below).out
                  rintro e X6 ⟨⟨z6, rfl, q6⟩, hb⟩
                  have hT6 := hT5.keep hb
                  clear hb c0 c1 c2 c3 c4 c5 c6 c7 c8 c9 c10 c11 c12 c13 c14 c15 c16 c17
                  cases z6
                  · clear q6
                    go_wp2_with fail
                    go_meet
                    exact ⟨looked_yes, hT6⟩
                  · replace q6 := hid_f (q6 rfl)
                    go_wp2_with fail
                    go_meet
                    exact ⟨⟨false, rfl, fun _ => ⟨by omega, by omega, by omega, hzc.out, q4.out, q5.out, q6.out⟩⟩, hT6⟩
            · go_wp2_with fail
              go_meet
              exact ⟨looked_yes, hT3⟩
    · go_wp2_with fail
      go_meet
      exact ⟨looked_yes, hT0⟩
  case rest =>
    clear hlg hcl hk1 hk2 hk3
    obtain ⟨⟨z, rfl, hz⟩, hT0⟩ := hcut
    cases z
    · obtain ⟨a1, a2, a3, a4, kV, kX, kY⟩ := hz rfl
      replace kV := hid_f kV
      replace kX := hid_f kX
      replace kY := hid_f kY
      replace a4 := hid_f a4
      have wV := hid_f (small_wide V hsV.out)
      have wX := hid_f (small_wide X hsX.out)
      have wY := hid_f (small_wide Y hsY.out)
      clear hz
      have c0 := Ord.cell hT0 (j := 0) rfl
      have c1 := Ord.cell hT0 (j := 1) rfl
      have c2 := Ord.cell hT0 (j := 2) rfl
      have c3 := Ord.cell hT0 (j := 3) rfl
      have c4 := Ord.cell hT0 (j := 4) rfl
      have c5 := Ord.cell hT0 (j := 5) rfl
      have c6 := Ord.cell hT0 (j := 6) rfl
      have c7 := Ord.cell hT0 (j := 7) rfl
      have c8 := Ord.cell hT0 (j := 8) rfl
      have c9 := Ord.cell hT0 (j := 9) rfl
      have c10 := Ord.cell hT0 (j := 10) rfl
      have c11 := Ord.cell hT0 (j := 11) rfl
      have c12 := Ord.cell hT0 (j := 12) rfl
      have c13 := Ord.cell hT0 (j := 13) rfl
      have c14 := Ord.cell hT0 (j := 14) rfl
      have c15 := Ord.cell hT0 (j := 15) rfl
      have c16 := Ord.cell hT0 (j := 16) rfl
      have c17 := Ord.cell hT0 (j := 17) rfl
      go_wp2_with fail
      clear c0 c1 c2 c3 c4 c5 c6 c7 c8 c9 c10 c11 c12 c13 c14 c15 c16 c17
      go_fit (setR_any V X k1 x1 s1 an1 ln1 cn1 ai1 li1 ci1 k2 x2 s2 an2 ln2 cn2 ai2 li2 ci2 _ A _ (VRep.keep hT0.below _ _ hV.out) (VRep.keep hT0.below _ _ hX.out) (hA.out.keep hT0.below) (by omega) zA.out (wide_more V wV.out))
      rintro e Ya ⟨ka, xa, sa, ana, lna, cna, aia, lia, cia, rfl, hva, hbw⟩
      obtain ⟨da, hda⟩ : ∃ d, Hid ((downT V A).1 = d) := ⟨_, hid_f rfl⟩
      rw [hda.out]
      have hT1 := hT0.keep (hbw.alloc hbw.size (.cells #[.int .i64 ka, .int .i64 xa, .string sa, .slice ana lna cna, .slice aia lia cia] 25))
      have ha := heap_alloc_new Ya (.cells #[.int .i64 ka, .int .i64 xa, .string sa, .slice ana lna cna, .slice aia lia cia] 25)
      replace hva := hid_f (VRep.keep ((Below.refl _ Ya).alloc (Nat.le_refl _) (.cells #[.int .i64 ka, .int .i64 xa, .string sa, .slice ana lna cna, .slice aia lia cia] 25)) _ _ hva)
      clear hbw hT0
      go_upto_region 4 with fail
      generalize Ya.alloc (.cells #[.int .i64 ka, .int .i64 xa, .string sa, .slice ana lna cna, .slice aia lia cia] 25) = Wa at hT1 ha hva  ⊢
      obtain ⟨ga, hga⟩ : ∃ g, Ya.heap.size = g := ⟨_, rfl⟩
      rw [hga] at ha
      rw [hga]
      clear hga
      have c0 := Ord.cell hT1 (j := 0) rfl
      have c1 := Ord.cell hT1 (j := 1) rfl
      have c2 := Ord.cell hT1 (j := 2) rfl
      have c3 := Ord.cell hT1 (j := 3) rfl
      have c4 := Ord.cell hT1 (j := 4) rfl
      have c5 := Ord.cell hT1 (j := 5) rfl
      have c6 := Ord.cell hT1 (j := 6) rfl
      have c7 := Ord.cell hT1 (j := 7) rfl
      have c8 := Ord.cell hT1 (j := 8) rfl
      have c9 := Ord.cell hT1 (j := 9) rfl
      have c10 := Ord.cell hT1 (j := 10) rfl
      have c11 := Ord.cell hT1 (j := 11) rfl
      have c12 := Ord.cell hT1 (j := 12) rfl
      have c13 := Ord.cell hT1 (j := 13) rfl
      have c14 := Ord.cell hT1 (j := 14) rfl
      have c15 := Ord.cell hT1 (j := 15) rfl
      have c16 := Ord.cell hT1 (j := 16) rfl
      have c17 := Ord.cell hT1 (j := 17) rfl
      obtain ⟨e0, e1, e2, e3, e4, -⟩ := row_cells ha
      go_wp2_with fail
      clear c0 c1 c2 c3 c4 c5 c6 c7 c8 c9 c10 c11 c12 c13 c14 c15 c16 c17
      clear e0 e1 e2 e3 e4
      go_fit (setR_any (setR V A X) Y ka xa sa ana lna cna aia lia cia k3 x3 s3 an3 ln3 cn3 ai3 li3 ci3 _ B _ hva.out (VRep.keep hT1.below _ _ hY.out) (hB.out.keep hT1.below) (by omega) zB.out (wide_setR wV.out (wide_more X wX.out)))
      rintro e Yb ⟨kb, xb, sb, anb, lnb, cnb, aib, lib, cib, rfl, hvb, hbw⟩
      obtain ⟨db, hdb⟩ : ∃ d, Hid ((downT (setR V A X) B).1 = d) := ⟨_, hid_f rfl⟩
      rw [hdb.out]
      have hT2 := hT1.keep (hbw.alloc hbw.size (.cells #[.int .i64 kb, .int .i64 xb, .string sb, .slice anb lnb cnb, .slice aib lib cib] 25))
      replace ha := block_keep ha (hbw.alloc hbw.size (.cells #[.int .i64 kb, .int .i64 xb, .string sb, .slice anb lnb cnb, .slice aib lib cib] 25))
      replace hva := hid_f (VRep.keep (hbw.alloc hbw.size (.cells #[.int .i64 kb, .int .i64 xb, .string sb, .slice anb lnb cnb, .slice aib lib cib] 25)) _ _ hva.out)
      have hb := heap_alloc_new Yb (.cells #[.int .i64 kb, .int .i64 xb, .string sb, .slice anb lnb cnb, .slice aib lib cib] 25)
      replace hvb := hid_f (VRep.keep ((Below.refl _ Yb).alloc (Nat.le_refl _) (.cells #[.int .i64 kb, .int .i64 xb, .string sb, .slice anb lnb cnb, .slice aib lib cib] 25)) _ _ hvb)
      clear hbw hT1
      go_upto_region 5 with fail
      generalize Yb.alloc (.cells #[.int .i64 kb, .int .i64 xb, .string sb, .slice anb lnb cnb, .slice aib lib cib] 25) = Wb at hT2 hb hvb ha hva ⊢
      obtain ⟨gb, hgb⟩ : ∃ g, Yb.heap.size = g := ⟨_, rfl⟩
      rw [hgb] at hb
      rw [hgb]
      clear hgb
      clear ha hva
      have c0 := Ord.cell hT2 (j := 0) rfl
      have c1 := Ord.cell hT2 (j := 1) rfl
      have c2 := Ord.cell hT2 (j := 2) rfl
      have c3 := Ord.cell hT2 (j := 3) rfl
      have c4 := Ord.cell hT2 (j := 4) rfl
      have c5 := Ord.cell hT2 (j := 5) rfl
      have c6 := Ord.cell hT2 (j := 6) rfl
      have c7 := Ord.cell hT2 (j := 7) rfl
      have c8 := Ord.cell hT2 (j := 8) rfl
      have c9 := Ord.cell hT2 (j := 9) rfl
      have c10 := Ord.cell hT2 (j := 10) rfl
      have c11 := Ord.cell hT2 (j := 11) rfl
      have c12 := Ord.cell hT2 (j := 12) rfl
      have c13 := Ord.cell hT2 (j := 13) rfl
      have c14 := Ord.cell hT2 (j := 14) rfl
      have c15 := Ord.cell hT2 (j := 15) rfl
      have c16 := Ord.cell hT2 (j := 16) rfl
      have c17 := Ord.cell hT2 (j := 17) rfl
      go_wp2_with fail
      clear c0 c1 c2 c3 c4 c5 c6 c7 c8 c9 c10 c11 c12 c13 c14 c15 c16 c17
      go_fit (setR_any V Y k1 x1 s1 an1 ln1 cn1 ai1 li1 ci1 k3 x3 s3 an3 ln3 cn3 ai3 li3 ci3 _ B _ (VRep.keep hT2.below _ _ hV.out) (VRep.keep hT2.below _ _ hY.out) (hB.out.keep hT2.below) (by omega) zB.out (wide_more V wV.out))
      rintro e Yc ⟨kc, xc, sc, anc, lnc, cnc, aic, lic, cic, rfl, hvc, hbw⟩
      obtain ⟨dc, hdc⟩ : ∃ d, Hid ((downT V B).1 = d) := ⟨_, hid_f rfl⟩
      rw [hdc.out]
      have hT3 := hT2.keep (hbw.alloc hbw.size (.cells #[.int .i64 kc, .int .i64 xc, .string sc, .slice anc lnc cnc, .slice aic lic cic] 25))
      replace hb := block_keep hb (hbw.alloc hbw.size (.cells #[.int .i64 kc, .int .i64 xc, .string sc, .slice anc lnc cnc, .slice aic lic cic] 25))
      replace hvb := hid_f (VRep.keep (hbw.alloc hbw.size (.cells #[.int .i64 kc, .int .i64 xc, .string sc, .slice anc lnc cnc, .slice aic lic cic] 25)) _ _ hvb.out)
      have hc := heap_alloc_new Yc (.cells #[.int .i64 kc, .int .i64 xc, .string sc, .slice anc lnc cnc, .slice aic lic cic] 25)
      replace hvc := hid_f (VRep.keep ((Below.refl _ Yc).alloc (Nat.le_refl _) (.cells #[.int .i64 kc, .int .i64 xc, .string sc, .slice anc lnc cnc, .slice aic lic cic] 25)) _ _ hvc)
      clear hbw hT2
      go_upto_region 6 with fail
      generalize Yc.alloc (.cells #[.int .i64 kc, .int .i64 xc, .string sc, .slice anc lnc cnc, .slice aic lic cic] 25) = Wc at hT3 hc hvc hb hvb ⊢
      obtain ⟨gc, hgc⟩ : ∃ g, Yc.heap.size = g := ⟨_, rfl⟩
      rw [hgc] at hc
      rw [hgc]
      clear hgc
      have c0 := Ord.cell hT3 (j := 0) rfl
      have c1 := Ord.cell hT3 (j := 1) rfl
      have c2 := Ord.cell hT3 (j := 2) rfl
      have c3 := Ord.cell hT3 (j := 3) rfl
      have c4 := Ord.cell hT3 (j := 4) rfl
      have c5 := Ord.cell hT3 (j := 5) rfl
      have c6 := Ord.cell hT3 (j := 6) rfl
      have c7 := Ord.cell hT3 (j := 7) rfl
      have c8 := Ord.cell hT3 (j := 8) rfl
      have c9 := Ord.cell hT3 (j := 9) rfl
      have c10 := Ord.cell hT3 (j := 10) rfl
      have c11 := Ord.cell hT3 (j := 11) rfl
      have c12 := Ord.cell hT3 (j := 12) rfl
      have c13 := Ord.cell hT3 (j := 13) rfl
      have c14 := Ord.cell hT3 (j := 14) rfl
      have c15 := Ord.cell hT3 (j := 15) rfl
      have c16 := Ord.cell hT3 (j := 16) rfl
      have c17 := Ord.cell hT3 (j := 17) rfl
      obtain ⟨e0, e1, e2, e3, e4, -⟩ := row_cells hc
      go_wp2_with fail
      clear c0 c1 c2 c3 c4 c5 c6 c7 c8 c9 c10 c11 c12 c13 c14 c15 c16 c17
      clear e0 e1 e2 e3 e4
      go_fit (setR_any (setR V B Y) X kc xc sc anc lnc cnc aic lic cic k2 x2 s2 an2 ln2 cn2 ai2 li2 ci2 _ A _ hvc.out (VRep.keep hT3.below _ _ hX.out) (hA.out.keep hT3.below) (by omega) zA.out (wide_setR wV.out (wide_more Y wY.out)))
      rintro e Yd ⟨kd, xd, sd, and, lnd, cnd, aid, lid, cid, rfl, hvd, hbw⟩
      obtain ⟨dd, hdd⟩ : ∃ d, Hid ((downT (setR V B Y) A).1 = d) := ⟨_, hid_f rfl⟩
      rw [hdd.out]
      have hT4 := hT3.keep (hbw.alloc hbw.size (.cells #[.int .i64 kd, .int .i64 xd, .string sd, .slice and lnd cnd, .slice aid lid cid] 25))
      replace hb := block_keep hb (hbw.alloc hbw.size (.cells #[.int .i64 kd, .int .i64 xd, .string sd, .slice and lnd cnd, .slice aid lid cid] 25))
      replace hvb := hid_f (VRep.keep (hbw.alloc hbw.size (.cells #[.int .i64 kd, .int .i64 xd, .string sd, .slice and lnd cnd, .slice aid lid cid] 25)) _ _ hvb.out)
      replace hc := block_keep hc (hbw.alloc hbw.size (.cells #[.int .i64 kd, .int .i64 xd, .string sd, .slice and lnd cnd, .slice aid lid cid] 25))
      replace hvc := hid_f (VRep.keep (hbw.alloc hbw.size (.cells #[.int .i64 kd, .int .i64 xd, .string sd, .slice and lnd cnd, .slice aid lid cid] 25)) _ _ hvc.out)
      have hd := heap_alloc_new Yd (.cells #[.int .i64 kd, .int .i64 xd, .string sd, .slice and lnd cnd, .slice aid lid cid] 25)
      replace hvd := hid_f (VRep.keep ((Below.refl _ Yd).alloc (Nat.le_refl _) (.cells #[.int .i64 kd, .int .i64 xd, .string sd, .slice and lnd cnd, .slice aid lid cid] 25)) _ _ hvd)
      clear hbw hT3
      go_upto_region 7 with fail
      generalize Yd.alloc (.cells #[.int .i64 kd, .int .i64 xd, .string sd, .slice and lnd cnd, .slice aid lid cid] 25) = Wd at hT4 hd hvd hb hvb hc hvc ⊢
      obtain ⟨gd, hgd⟩ : ∃ g, Yd.heap.size = g := ⟨_, rfl⟩
      rw [hgd] at hd
      rw [hgd]
      clear hgd
      clear hc hvc
      go_cut [122] (fun v wx => Looked (da = 0 ∧ db = 0 ∧ dc = 0 ∧ dd = 0) v ∧ wx = Wd)
      case first =>
        by_cases ma : da = 0
        · subst ma
          by_cases mb : db = 0
          · subst mb
            by_cases mc : dc = 0
            · subst mc
              by_cases md : dd = 0
              · subst md
                go_wp2_with (go_at_call 11; refine (num_any _ _).mono ?_; rintro e w9 ⟨rfl, rfl⟩)
                go_meet
                exact ⟨⟨false, rfl, fun _ => by simp⟩, rfl⟩
              · have nd : (dd == 0) = false := by simpa using md
                go_wp2_with (go_at_call 11; refine (num_any _ _).mono ?_; rintro e w9 ⟨rfl, rfl⟩)
                go_meet
                exact ⟨looked_ne md, rfl⟩
            · have nc : (dc == 0) = false := by simpa using mc
              go_wp2_with (go_at_call 11; refine (num_any _ _).mono ?_; rintro e w9 ⟨rfl, rfl⟩)
              go_meet
              exact ⟨looked_yes, rfl⟩
          · have nb : (db == 0) = false := by simpa using mb
            go_wp2_with (go_at_call 11; refine (num_any _ _).mono ?_; rintro e w9 ⟨rfl, rfl⟩)
            go_meet
            exact ⟨looked_yes, rfl⟩
        · have na : (da == 0) = false := by simpa using ma
          go_wp2_with (go_at_call 11; refine (num_any _ _).mono ?_; rintro e w9 ⟨rfl, rfl⟩)
          go_meet
          exact ⟨looked_yes, rfl⟩
      case rest =>
        obtain ⟨⟨z, rfl, hz⟩, rfl⟩ := hcut
        cases z
        · obtain ⟨ma, mb, mc, md⟩ := hz rfl
          subst ma
          subst mb
          subst mc
          subst md
          have hal := hid_f (order_alike (K := K) kV.out kX.out kY.out a4.out hda.out hdb.out hdc.out hdd.out)
          clear hz hda hdb hdc hdd
          have c0 := Ord.cell hT4 (j := 0) rfl
          have c1 := Ord.cell hT4 (j := 1) rfl
          have c2 := Ord.cell hT4 (j := 2) rfl
          have c3 := Ord.cell hT4 (j := 3) rfl
          have c4 := Ord.cell hT4 (j := 4) rfl
          have c5 := Ord.cell hT4 (j := 5) rfl
          have c6 := Ord.cell hT4 (j := 6) rfl
          have c7 := Ord.cell hT4 (j := 7) rfl
          have c8 := Ord.cell hT4 (j := 8) rfl
          have c9 := Ord.cell hT4 (j := 9) rfl
          have c10 := Ord.cell hT4 (j := 10) rfl
          have c11 := Ord.cell hT4 (j := 11) rfl
          have c12 := Ord.cell hT4 (j := 12) rfl
          have c13 := Ord.cell hT4 (j := 13) rfl
          have c14 := Ord.cell hT4 (j := 14) rfl
          have c15 := Ord.cell hT4 (j := 15) rfl
          have c16 := Ord.cell hT4 (j := 16) rfl
          have c17 := Ord.cell hT4 (j := 17) rfl
          obtain ⟨e0, e1, e2, e3, e4, -⟩ := row_cells hb
          go_wp2_with fail
          clear c0 c1 c2 c3 c4 c5 c6 c7 c8 c9 c10 c11 c12 c13 c14 c15 c16 c17 e0 e1 e2 e3 e4
          go_fit (getR_any (setR (setR V A X) B Y) kb xb sb anb lnb cnb aib lib cib _ K _ hvb.out (hK.out.keep hT4.below) (by omega) zK.out)
          rintro e Yx ⟨kx, xx, sx, anx, lnx, cnx, aix, lix, cix, rfl, hvx, hbw⟩
          obtain ⟨bx, hqx⟩ : ∃ b, Hid ((getT (setR (setR V A X) B Y) K).isSome = b) := ⟨_, hid_f rfl⟩
          rw [hqx.out]
          have hT5 := hT4.keep (hbw.alloc hbw.size (.cells #[.int .i64 kx, .int .i64 xx, .string sx, .slice anx lnx cnx, .slice aix lix cix] 25))
          replace hb := block_keep hb (hbw.alloc hbw.size (.cells #[.int .i64 kx, .int .i64 xx, .string sx, .slice anx lnx cnx, .slice aix lix cix] 25))
          replace hvb := hid_f (VRep.keep (hbw.alloc hbw.size (.cells #[.int .i64 kx, .int .i64 xx, .string sx, .slice anx lnx cnx, .slice aix lix cix] 25)) _ _ hvb.out)
          replace hd := block_keep hd (hbw.alloc hbw.size (.cells #[.int .i64 kx, .int .i64 xx, .string sx, .slice anx lnx cnx, .slice aix lix cix] 25))
          replace hvd := hid_f (VRep.keep (hbw.alloc hbw.size (.cells #[.int .i64 kx, .int .i64 xx, .string sx, .slice anx lnx cnx, .slice aix lix cix] 25)) _ _ hvd.out)
          have hx := heap_alloc_new Yx (.cells #[.int .i64 kx, .int .i64 xx, .string sx, .slice anx lnx cnx, .slice aix lix cix] 25)
          replace hvx := hid_f (VRep.keep ((Below.refl _ Yx).alloc (Nat.le_refl _) (.cells #[.int .i64 kx, .int .i64 xx, .string sx, .slice anx lnx cnx, .slice aix lix cix] 25)) _ _ hvx)
          clear hbw hT4
          go_upto_region 10 with fail
          generalize Yx.alloc (.cells #[.int .i64 kx, .int .i64 xx, .string sx, .slice anx lnx cnx, .slice aix lix cix] 25) = Wx at hT5 hx hvx hb hvb hd hvd ⊢
          obtain ⟨gx, hgx⟩ : ∃ g, Yx.heap.size = g := ⟨_, rfl⟩
          rw [hgx] at hx
          rw [hgx]
          clear hgx
          clear hb hvb
          have c0 := Ord.cell hT5 (j := 0) rfl
          have c1 := Ord.cell hT5 (j := 1) rfl
          have c2 := Ord.cell hT5 (j := 2) rfl
          have c3 := Ord.cell hT5 (j := 3) rfl
          have c4 := Ord.cell hT5 (j := 4) rfl
          have c5 := Ord.cell hT5 (j := 5) rfl
          have c6 := Ord.cell hT5 (j := 6) rfl
          have c7 := Ord.cell hT5 (j := 7) rfl
          have c8 := Ord.cell hT5 (j := 8) rfl
          have c9 := Ord.cell hT5 (j := 9) rfl
          have c10 := Ord.cell hT5 (j := 10) rfl
          have c11 := Ord.cell hT5 (j := 11) rfl
          have c12 := Ord.cell hT5 (j := 12) rfl
          have c13 := Ord.cell hT5 (j := 13) rfl
          have c14 := Ord.cell hT5 (j := 14) rfl
          have c15 := Ord.cell hT5 (j := 15) rfl
          have c16 := Ord.cell hT5 (j := 16) rfl
          have c17 := Ord.cell hT5 (j := 17) rfl
          obtain ⟨e0, e1, e2, e3, e4, -⟩ := row_cells hd
          go_wp2_with fail
          clear c0 c1 c2 c3 c4 c5 c6 c7 c8 c9 c10 c11 c12 c13 c14 c15 c16 c17 e0 e1 e2 e3 e4
          go_fit (getR_any (setR (setR V B Y) A X) kd xd sd and lnd cnd aid lid cid _ K _ hvd.out (hK.out.keep hT5.below) (by omega) zK.out)
          rintro e Yy ⟨ky, xy, sy, any, lny, cny, aiy, liy, ciy, rfl, hvy, hbw⟩
          obtain ⟨byy, hqy⟩ : ∃ b, Hid ((getT (setR (setR V B Y) A X) K).isSome = b) := ⟨_, hid_f rfl⟩
          rw [hqy.out]
          have hT6 := hT5.keep (hbw.alloc hbw.size (.cells #[.int .i64 ky, .int .i64 xy, .string sy, .slice any lny cny, .slice aiy liy ciy] 25))
          replace hd := block_keep hd (hbw.alloc hbw.size (.cells #[.int .i64 ky, .int .i64 xy, .string sy, .slice any lny cny, .slice aiy liy ciy] 25))
          replace hvd := hid_f (VRep.keep (hbw.alloc hbw.size (.cells #[.int .i64 ky, .int .i64 xy, .string sy, .slice any lny cny, .slice aiy liy ciy] 25)) _ _ hvd.out)
          replace hx := block_keep hx (hbw.alloc hbw.size (.cells #[.int .i64 ky, .int .i64 xy, .string sy, .slice any lny cny, .slice aiy liy ciy] 25))
          replace hvx := hid_f (VRep.keep (hbw.alloc hbw.size (.cells #[.int .i64 ky, .int .i64 xy, .string sy, .slice any lny cny, .slice aiy liy ciy] 25)) _ _ hvx.out)
          have hy := heap_alloc_new Yy (.cells #[.int .i64 ky, .int .i64 xy, .string sy, .slice any lny cny, .slice aiy liy ciy] 25)
          replace hvy := hid_f (VRep.keep ((Below.refl _ Yy).alloc (Nat.le_refl _) (.cells #[.int .i64 ky, .int .i64 xy, .string sy, .slice any lny cny, .slice aiy liy ciy] 25)) _ _ hvy)
          clear hbw hT5
          go_upto_region 11 with fail
          generalize Yy.alloc (.cells #[.int .i64 ky, .int .i64 xy, .string sy, .slice any lny cny, .slice aiy liy ciy] 25) = Wy at hT6 hy hvy hd hvd hx hvx ⊢
          obtain ⟨gy, hgy⟩ : ∃ g, Yy.heap.size = g := ⟨_, rfl⟩
          rw [hgy] at hy
          rw [hgy]
          clear hgy
          clear hd hvd
          have hbb : (bx == byy) = true := by have := hal.out.1; rw [hqx.out, hqy.out] at this; simp [this]
          have hlike := hid_f (alike_any _ _ _ _ Wy hvx.out hvy.out hal.out.2)
          clear hal hqx hqy hvx hvy
          obtain ⟨e0, e1, e2, e3, e4, -⟩ := row_cells hx
          obtain ⟨f0, f1, f2, f3, f4, -⟩ := row_cells hy
          go_wp2_with fail
          go_fit hlike.out
          rintro e W8 ⟨rfl, hb8⟩
          clear e0 e1 e2 e3 e4 f0 f1 f2 f3 f4 hlike
          go_wp2_with fail
          go_fit (live_true _)
          rintro e W9 ⟨rfl, hb9⟩
          go_wp2_with fail
          go_ret
          exact ⟨rfl, (hT6.below.trans (hb8.mono hT6.below.size)).trans (hb9.mono (Nat.le_trans hT6.below.size hb8.size))⟩
        · clear hz
          go_wp2_with fail
          go_fit (live_true _)
          rintro e W9 ⟨rfl, hb9⟩
          go_wp2_with fail
          go_ret
          exact ⟨rfl, hT4.below.trans (hb9.mono hT4.below.size)⟩
    · clear hz
      go_wp2_with fail
      go_fit (live_true _)
      rintro e W9 ⟨rfl, hb9⟩
      go_wp2_with fail
      go_ret
      exact ⟨rfl, hT0.below.trans (hb9.mono hT0.below.size)⟩
end Go.Proofs.Ytmlbofbnklmedaa
