import Derived.Test.YtmlbofbnklmedaaG2
/-! Parts: how many parts a value has, counted as far as a most. -/
namespace Go.Proofs.Ytmlbofbnklmedaa
open Go Go.RowKit

mutual
/-- How many Values and Names a Value has. -/
def partsT : Tr → Nat
  | .node _ _ _ ns its => 1 + ns.length + partsL its
def partsL : List Tr → Nat
  | [] => 0
  | t :: ts => partsT t + partsL ts
end
theorem partsL_snoc : (l : List Tr) → (u : Tr) → partsL (l ++ [u]) = partsL l + partsT u
  | [], u => by simp [partsL]
  | t :: ts, u => by simp [partsL, partsL_snoc ts u, Nat.add_assoc]
theorem partsL_take : (l : List Tr) → (q : Nat) → partsL (l.take q) ≤ partsL l
  | [], q => by simp
  | t :: ts, 0 => by simp [partsL]
  | t :: ts, q + 1 => by simp only [List.take_succ_cons, partsL]; have := partsL_take ts q; omega
theorem partsL_step {l : List Tr} {q : Nat} {u : Tr} (h : l[q]? = some u) : partsL (l.take (q + 1)) = partsL (l.take q) + partsT u := by
  rw [List.take_add_one, h]
  exact partsL_snoc _ u
/-- What Parts tells. -/
def PartsOk (m z : Int) (n : Nat) : Prop := 0 ≤ z ∧ z ≤ m + 1 + 8796093021952 ∧ (z ≤ m → z = n) ∧ (m < z → m < n)
theorem wrap_in (x : Int) (h0 : -9223372036854775808 ≤ x) (h1 : x ≤ 9223372036854775807) : IntKind.i64.wrap x = x := by
  rw [IntKind.wrap_i64]; omega
set_option maxHeartbeats 2000000 in
set_option maxRecDepth 100000 in
theorem parts_exact_one (k x : Int) (s : ByteArray) (an : Option Addr) (cn : Nat) (ns : List ByteArray) (ai : Option Addr) (ci : Nat) (its : List Tr) (m : Int) (w : World) (hm0 : 0 ≤ m) (hm1 : m ≤ 1000000000) (hns : ns.length ≤ 8796093021952) (hM : its.length ≤ 9223372036854775806) (hL : Hid (ItemsAt' w ai its))
    (hI : Hid (∀ (i : Nat) (u : Tr), its[i]? = some u → ∀ cs m' w', VRep w' u cs → 0 ≤ m' → m' ≤ 1000000000 → Calls Try.prog 23 #[.agg cs.toArray, .int .i64 m'] w' fun e w'' => (∃ z, e = .returned (.int .i64 z) ∧ PartsOk m' z (partsT u)) ∧ Below w'.heap.size w' w'')) :
    Calls Try.prog 23 #[.agg #[.int .i64 k, .int .i64 x, .string s, .slice an ns.length cn, .slice ai its.length ci], .int .i64 m] w fun e w' => (∃ z, e = .returned (.int .i64 z) ∧ PartsOk m z (partsT (.node k x s ns its))) ∧ Below w.heap.size w w' := by
  obtain ⟨P, hP⟩ : ∃ P, Hid (partsT (.node k x s ns its) = P) := ⟨_, rfl⟩
  rw [hP.out]
  have hP' : Hid (P = 1 + ns.length + partsL its) := by rw [Hid, ← hP.out]; unfold partsT; rfl
  have hw1 : IntKind.i64.wrap (1 + (ns.length : Int)) = 1 + (ns.length : Int) := wrap_in _ (by omega) (by omega)
  go_enter Try.func23, Try.ntmps23
  go_wp2_with fail
  clear hw1
  go_loopw [5, 6] (fun n i wr => ∃ (z : Int) (q : Nat), q ≤ its.length ∧ n = .int .i64 z ∧ i = .int .i64 q ∧ Below w.heap.size w wr ∧ wr.heap[w.heap.size]? = some (.cells #[.int .i64 k, .int .i64 x, .string s, .slice an ns.length cn, .slice ai its.length ci] 25 (0, 0)) ∧ 0 ≤ z ∧ z ≤ m + 1 + 8796093021952 ∧ Hid (z ≤ m → z = (1 + ns.length + partsL (its.take q) : Nat)) ∧ Hid (m < z → m < (P : Int))) (fun _ i _ => its.length - (intOf i).toNat)
  case atStart => exact ⟨1 + ns.length, 0, Nat.zero_le _, by first | rfl | (congr 1), rfl, (Below.refl _ w).alloc (Nat.le_refl _) _, heap_alloc_new w _, by omega, by omega, fun _ => by simp [partsL], fun h => by have := hP'.out; omega⟩
  case round =>
    obtain ⟨z, q, hq, rfl, rfl, hbel, hb0, hz0, hz1, hE, hG⟩ := hrel
    obtain ⟨-, -, -, -, y4, -⟩ := row_cells hb0
    by_cases hlt : q < its.length
    · have hd : decide ((q : Int) < (its.length : Int)) = true := by simp; omega
      by_cases hz : z ≤ m
      · have hd2 : decide (z ≤ m) = true := by simpa using hz
        obtain ⟨u, hu⟩ : ∃ u, Hid (its[q]? = some u) := ⟨_, List.getElem?_eq_getElem hlt⟩
        obtain ⟨b, o, rfl, hb, hV⟩ := hL.out.resolve_left (by intro e; subst e; simp at hlt)
        obtain ⟨cs, hC, hr⟩ := VRepL.at its o q u hV hu.out
        obtain ⟨k2, x2, s2, an2, ln2, cn2, ai2, li2, ci2, rfl⟩ := vrep_five hr
        have g0 := stay hbel (hC 0 _ rfl)
        have g1 := stay hbel (hC 1 _ rfl)
        have g2 := stay hbel (hC 2 _ rfl)
        have g3 := stay hbel (hC 3 _ rfl)
        have g4 := stay hbel (hC 4 _ rfl)
        simp only [Nat.add_zero] at g0
        have hcall := hid_e (hI.out q u hu.out _ (m - z) wr (VRep.keep hbel _ _ hr) (by omega) (by omega))
        clear hV hC hr
        have hw2 : IntKind.i64.wrap (m - z) = m - z := wrap_in _ (by omega) (by omega)
        go_wp2_with fail
        clear g0 g1 g2 g3 g4 hw2
        go_fit hcall.out
        rintro e w1 ⟨⟨z', rfl, hz2, hz3, hz4, hz5⟩, hb1⟩
        clear hcall y4
        have hbel1 : Below w.heap.size w w1 := hbel.trans (hb1.mono hbel.size)
        replace hb0 := (hb1.block _ (Array.getElem?_eq_some_iff.1 hb0).1).trans hb0
        have hw3 : IntKind.i64.wrap (z + z') = z + z' := wrap_in _ (by omega) (by omega)
        replace hz4 := hid_e hz4
        replace hz5 := hid_e hz5
        have hst := hid_e (partsL_step hu.out)
        have htk := hid_e (partsL_take its (q + 1))
        have hzE := hid_e (hE.out hz)
        go_wp2_with fail
        go_roundw
        case rel =>
          refine ⟨z + z', q + 1, by omega, by first | rfl | (congr 1), by simp, hbel1, hb0, by omega, by omega, fun h => ?_, fun h => ?_⟩
          · have h1 := hz4.out (by omega)
            have h2 := hzE.out
            have h3 := hst.out
            omega
          · have h1 := hz5.out (by omega)
            have h2 := hzE.out
            have h3 := hst.out
            have h4 := htk.out
            have h5 := hP'.out
            omega
        case measure => simp [intOf]; omega
      · have hd2 : decide (z ≤ m) = false := by simpa using hz
        go_wp2_with fail
        go_ret
        exact ⟨⟨z, rfl, hz0, hz1, fun h => by omega, hG.out⟩, hbel⟩
    · have hd : decide ((q : Int) < (its.length : Int)) = false := by simp; omega
      obtain rfl : q = its.length := by omega
      go_wp2_with fail
      go_ret
      refine ⟨⟨z, rfl, hz0, hz1, fun h => ?_, hG.out⟩, hbel⟩
      have h1 := hE.out h
      rw [List.take_length] at h1
      have h2 := hP'.out
      omega
theorem parts_exact (t : Tr) (cs : List Value) (m : Int) (w : World) (hV : VRep w t cs) (hS : SmallT t) (hm0 : 0 ≤ m) (hm1 : m ≤ 1000000000) :
    Calls Try.prog 23 #[.agg cs.toArray, .int .i64 m] w fun e w' => (∃ z, e = .returned (.int .i64 z) ∧ PartsOk m z (partsT t)) ∧ Below w.heap.size w w' := by
  match t, hV, hS with
  | .node k x s ns its, hV, hS =>
    unfold VRep at hV
    unfold SmallT at hS
    obtain ⟨nm, a, c, rfl, hn, hc, hI⟩ := hV
    obtain ⟨an, cn, rfl, -, -⟩ := id hn
    refine parts_exact_one k x s an cn ns a c its m w hm0 hm1 (by omega) (by omega) (hid_e hI) (hid_e (fun i u hu ds m' w' h1 h2 h3 => ?_))
    have hlt : SizeOf.sizeOf u < SizeOf.sizeOf its := tr_lt hu
    exact parts_exact u ds m' w' h1 (SmallL.at hS.2.2.2.2 hu) h2 h3
termination_by SizeOf.sizeOf t
decreasing_by simp only [Tr.node.sizeOf_spec]; omega
end Go.Proofs.Ytmlbofbnklmedaa
/-! All, plainly. -/
namespace Go.Proofs.Ytmlbofbnklmedaa
open Go Go.RowKit

/-- All of a value, by n steps at most. -/
def allF : Nat → Tr → List ByteArray → List Tr
  | _, t, [] => [t]
  | 0, _, _ :: _ => []
  | n + 1, t, s :: r => match placeT t s with
    | some i => (match t.items[i]? with | some u => allF n u r | none => [])
    | none => if spreadB t.kind s = true then t.items.flatMap (fun u => if u.kind = 6 then allF n u (s :: r) else []) else []
def eachF (n : Nat) (its : List Tr) (l : List ByteArray) : List Tr := its.flatMap (fun u => if u.kind = 6 then allF n u l else [])
theorem allF_nil (n : Nat) (t : Tr) : allF n t [] = [t] := by cases n <;> rfl
theorem allF_some {n : Nat} {t u : Tr} {s : ByteArray} {r : List ByteArray} {i : Nat} (h : placeB t.kind t.names t.items.length s = true) (hi : placeI t.kind t.names s = i) (hu : t.items[i]? = some u) : allF (n + 1) t (s :: r) = allF n u r := by
  simp [allF, placeT, h, hi, hu]
theorem allF_none {n : Nat} {t : Tr} {s : ByteArray} {r : List ByteArray} (h : placeB t.kind t.names t.items.length s = false) : allF (n + 1) t (s :: r) = if spreadB t.kind s = true then eachF n t.items (s :: r) else [] := by
  simp [allF, placeT, h, eachF]
theorem parts_pos (t : Tr) : 1 ≤ partsT t := by cases t; unfold partsT; omega
theorem partsL_mem {its : List Tr} {i : Nat} {u : Tr} (h : its[i]? = some u) : partsT u ≤ partsL its := by
  have h1 := partsL_step h
  have h2 := partsL_take its (i + 1)
  omega
theorem partsT_items (t : Tr) : 1 + partsL t.items ≤ partsT t := by
  cases t with
  | node k x s ns its =>
    show 1 + partsL its ≤ partsT _
    unfold partsT
    omega
theorem each_len {n : Nat} {l : List ByteArray} (h : ∀ u, (allF n u l).length ≤ partsT u) : (its : List Tr) → (eachF n its l).length ≤ partsL its
  | [] => by simp [eachF, partsL]
  | t :: ts => by
    have ih := each_len h ts
    unfold eachF at ih ⊢
    rw [List.flatMap_cons, List.length_append, partsL]
    have h1 := h t
    have h2 := parts_pos t
    by_cases h6 : t.kind = 6
    · rw [if_pos h6]; omega
    · rw [if_neg h6, List.length_nil]; omega
theorem allF_len : (n : Nat) → (l : List ByteArray) → (t : Tr) → (allF n t l).length ≤ partsT t
  | n, [], t => by rw [allF_nil]; have := parts_pos t; simpa using this
  | 0, _ :: _, t => by simp [allF]
  | n + 1, s :: r, t => by
    have ht := partsT_items t
    cases hb : placeB t.kind t.names t.items.length s
    · rw [allF_none hb]
      split
      · have := each_len (allF_len n (s :: r)) t.items; omega
      · simp
    · obtain ⟨i, hi, him⟩ := placeB_true hb
      obtain ⟨u, hu⟩ : ∃ u, t.items[i]? = some u := ⟨_, List.getElem?_eq_getElem him⟩
      rw [allF_some hb hi hu]
      have h1 := allF_len n r u
      have h2 := partsL_mem hu
      omega
theorem each_step {n : Nat} {l : List ByteArray} {its : List Tr} {q : Nat} {u : Tr} (h : its[q]? = some u) : eachF n (its.take (q + 1)) l = eachF n (its.take q) l ++ (if u.kind = 6 then allF n u l else []) := by
  unfold eachF
  rw [List.take_add_one, h]
  simp
theorem ItemsRep.app {W : World} : {ts us : List Tr} → {xs ys : List Value} → ItemsRep W ts xs → ItemsRep W us ys → ItemsRep W (ts ++ us) (xs ++ ys)
  | [], us, xs, ys, h, h' => by unfold ItemsRep at h; subst h; simpa using h'
  | t :: ts, us, xs, ys, h, h' => by
    unfold ItemsRep at h
    obtain ⟨c1, r, rfl, h1, h2, h3⟩ := h
    show ItemsRep W (t :: (ts ++ us)) _
    unfold ItemsRep
    exact ⟨c1, r ++ ys, by simp, h1, h2, ItemsRep.app h3 h'⟩
theorem vrep_kind2 {W : World} {t : Tr} {k x : Int} {s : ByteArray} {nm it : Value} (h : VRep W t (five k x s nm it)) : t.kind = k := by
  cases t with
  | node k0 x0 s0 ns its =>
    unfold VRep at h
    obtain ⟨_, _, _, e, _⟩ := h
    unfold five at e
    simp at e
    exact e.1.symm
/-- What gather answers. -/
def GPost (W0 : World) (lo : Nat) (w : World) (m : Nat) (ts r : List Tr) (e : Ending) (w' : World) : Prop :=
  ∃ fv xs, e = .returned fv ∧ w'.ownsRow lo 25 5 fv (m + r.length) xs ∧ ItemsRep W0 (ts ++ r) xs ∧ Below lo w w'
/-- gather of values that are not too deep. -/
def GatherOk (n : Nat) : Prop := ∀ (W0 : World) (t : Tr) (k x : Int) (s : ByteArray) (an : Option Addr) (ln cn : Nat) (ai : Option Addr) (li ci : Nat) (pv : Value) (l : List ByteArray) (w : World) (lo m : Nat) (fv : Value) (ts : List Tr) (xs : List Value),
  SizeOf.sizeOf t ≤ n → Below W0.heap.size W0 w → VRep W0 t (five k x s (.slice an ln cn) (.slice ai li ci)) → Reads W0 pv l → (∀ s ∈ l, s.size ≤ 9223372036854775806) → l.length ≤ 9223372036854775806 → W0.heap.size ≤ lo → lo ≤ w.heap.size → w.ownsRow lo 25 5 fv m xs → ItemsRep W0 ts xs → m + partsT t ≤ 1000000 →
  Calls Try.prog 43 #[fv, .agg #[.int .i64 k, .int .i64 x, .string s, .slice an ln cn, .slice ai li ci], pv] w (GPost W0 lo w m ts (allF n t l))

set_option maxHeartbeats 2000000 in
set_option maxRecDepth 100000 in
theorem each_any (n : Nat) (hG : Hid (GatherOk n)) (W0 : World) (its : List Tr) (a : Option Addr) (c : Nat) (ap : Option Addr) (lp cp : Nat) (l : List ByteArray) (w : World) (lo m : Nat) (fv : Value) (ts : List Tr) (xs : List Value)
    (hn : Hid (∀ u ∈ its, SizeOf.sizeOf u ≤ n)) (hW : Below W0.heap.size W0 w) (hM : its.length ≤ 9223372036854775806) (hL : Hid (its = [] ∨ ∃ b o, a = some ⟨b, o, none⟩ ∧ b < W0.heap.size ∧ VRepL W0 b o its)) (hP : Hid (Reads W0 (.slice ap lp cp) l)) (hS : Hid (∀ s ∈ l, s.size ≤ 9223372036854775806)) (hll : l.length ≤ 9223372036854775806) (hlo : W0.heap.size ≤ lo) (hlw : lo ≤ w.heap.size) (hown : Hid (w.ownsRow lo 25 5 fv m xs)) (hI : Hid (ItemsRep W0 ts xs)) (hb : Hid (m + partsL its ≤ 1000000)) :
    Calls Try.prog 62 #[fv, .slice a its.length c, .slice ap lp cp] w (GPost W0 lo w m ts (eachF n its l)) := by
  obtain ⟨af, cf, rfl⟩ := ownsRow_slice hown.out
  go_enter Try.func62, Try.ntmps62
  go_wp2_with fail
  go_loopw [0, 11] (fun f i wr => ∃ (q : Nat) (ys : List Value), q ≤ its.length ∧ i = .int .i64 q ∧ Below lo w wr ∧ Hid (wr.ownsRow lo 25 5 f (m + (eachF n (its.take q) l).length) ys) ∧ Hid (ItemsRep W0 (ts ++ eachF n (its.take q) l) ys)) (fun _ i _ => its.length - (intOf i).toNat)
  case atStart => exact ⟨0, xs, Nat.zero_le _, rfl, Below.refl _ w, by simpa [eachF] using hown, by simpa [eachF] using hI⟩
  case round =>
    obtain ⟨q, ys, hq, rfl, hbel, hown1, hI1⟩ := hrel
    obtain ⟨a0, c0, rfl⟩ := ownsRow_slice hown1.out
    have hlr : lo ≤ wr.heap.size := Nat.le_trans hlw hbel.size
    have hWr : Below W0.heap.size W0 wr := hW.trans (hbel.mono hlo)
    by_cases hlt : q < its.length
    · have hd : decide ((q : Int) < (its.length : Int)) = true := by simp; omega
      obtain ⟨u, hu⟩ : ∃ u, Hid (its[q]? = some u) := ⟨_, List.getElem?_eq_getElem hlt⟩
      obtain ⟨b, o, rfl, hbl, hV⟩ := hL.out.resolve_left (by intro e; subst e; simp at hlt)
      obtain ⟨cs, hC, hr⟩ := VRepL.at its o q u hV hu.out
      obtain ⟨k2, x2, s2, an2, ln2, cn2, ai2, li2, ci2, rfl⟩ := vrep_five hr
      have g0 := stay hWr (hC 0 _ rfl)
      have g1 := stay hWr (hC 1 _ rfl)
      have g2 := stay hWr (hC 2 _ rfl)
      have g3 := stay hWr (hC 3 _ rfl)
      have g4 := stay hWr (hC 4 _ rfl)
      simp only [Nat.add_zero] at g0
      have hkd := vrep_kind2 hr
      have hst := hid_f (each_step (n := n) (l := l) hu.out)
      have hcnt : Hid (m + (eachF n (its.take q) l).length + partsT u ≤ 1000000) := by
        have h1 := each_len (allF_len n l) (its.take q)
        have h2 := partsL_step hu.out
        have h3 := partsL_take its (q + 1)
        have h4 := hb.out
        exact hid_f (by omega)
      by_cases h6 : k2 = 6
      · subst h6
        have hcall := hid_f (fun p => hG.out W0 u 6 x2 s2 an2 ln2 cn2 ai2 li2 ci2 _ l (wr.alloc p) lo _ _ _ _ (hn.out u (List.mem_of_getElem? hu.out)) (hWr.alloc hWr.size p) hr hP.out hS.out hll hlo (by rw [World.size_alloc]; omega) (hown1.out.alloc p) hI1.out hcnt.out)
        rw [if_pos hkd] at hst
        clear hV hC hr
        go_wp2_with fail
        clear g0 g1 g2 g3 g4
        go_fit (hcall.out _)
        rintro e w1 ⟨fv1, xs1, rfl, h1, h2, h3⟩
        have hbel1 : Below lo w w1 := (hbel.alloc hlr _).trans h3
        replace h1 : Hid (w1.ownsRow lo 25 5 fv1 (m + (eachF n (its.take (q + 1)) l).length) xs1) := by rw [hst.out, List.length_append, ← Nat.add_assoc]; exact h1
        replace h2 : Hid (ItemsRep W0 (ts ++ eachF n (its.take (q + 1)) l) xs1) := by rw [hst.out, ← List.append_assoc]; exact h2
        clear hcall hst hcnt hkd h3
        go_wp2_with fail
        go_roundw
        case rel => exact ⟨q + 1, xs1, by omega, by simp, hbel1, h1, h2⟩
        case measure => simp [intOf]; omega
      · have e6 : (k2 == 6) = false := by simpa using h6
        rw [if_neg (by rw [hkd]; exact h6), List.append_nil] at hst
        have hbel1 : Below lo w (wr.alloc (.cells #[.int .i64 k2, .int .i64 x2, .string s2, .slice an2 ln2 cn2, .slice ai2 li2 ci2] 25)) := hbel.alloc hlr _
        have h1 : Hid ((wr.alloc (.cells #[.int .i64 k2, .int .i64 x2, .string s2, .slice an2 ln2 cn2, .slice ai2 li2 ci2] 25)).ownsRow lo 25 5 (.slice a0 (m + (eachF n (its.take q) l).length) c0) (m + (eachF n (its.take (q + 1)) l).length) ys) := by rw [hst.out]; exact hown1.out.alloc _
        have h2 : Hid (ItemsRep W0 (ts ++ eachF n (its.take (q + 1)) l) ys) := by rw [hst.out]; exact hI1
        clear hV hC hr hst hcnt hkd
        go_wp2_with fail
        go_roundw
        case rel => exact ⟨q + 1, ys, by omega, by simp, hbel1, h1, h2⟩
        case measure => simp [intOf]; omega
    · have hd : decide ((q : Int) < (its.length : Int)) = false := by simp; omega
      obtain rfl : q = its.length := by omega
      rw [List.take_length] at hown1 hI1
      go_wp2_with fail
      go_ret
      exact ⟨_, ys, rfl, by simpa using hown1.out, hI1.out, hbel⟩
end Go.Proofs.Ytmlbofbnklmedaa
