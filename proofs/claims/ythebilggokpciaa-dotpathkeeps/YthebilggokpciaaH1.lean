import Derived.Test.YthebilggokpciaaG3
/-! All, plainly. -/
namespace Go.Proofs.Ythebilggokpciaa
open Go Go.RowKit

/-- All of a value, by n steps at most. -/
def allF : Nat → Tr → List ByteArray → List Tr
  | _, t, [] => [t]
  | 0, _, _ :: _ => []
  | n + 1, t, s :: r => match placeT t s with
    | some i => (match t.items[i]? with | some u => allF n u r | none => [])
    | none => if spreadB t.kind s = true then t.items.flatMap (fun u => if u.kind = 6 then allF n u (s :: r) else []) else []
def eachF (n : Nat) (its : List Tr) (l : List ByteArray) : List Tr := its.flatMap (fun u => if u.kind = 6 then allF n u l else [])
theorem allF_nil (n : Nat) (t : Tr) : allF n t [] = [t] := by cases n <;> rfl
theorem allF_some {n : Nat} {t u : Tr} {s : ByteArray} {r : List ByteArray} {i : Nat} (h : placeB t.kind t.names t.items.length s = true) (hi : placeI t.kind t.names s = i) (hu : t.items[i]? = some u) : allF (n + 1) t (s :: r) = allF n u r := by
  simp [allF, placeT, h, hi, hu]
theorem allF_none {n : Nat} {t : Tr} {s : ByteArray} {r : List ByteArray} (h : placeB t.kind t.names t.items.length s = false) : allF (n + 1) t (s :: r) = if spreadB t.kind s = true then eachF n t.items (s :: r) else [] := by
  simp [allF, placeT, h, eachF]
theorem parts_pos (t : Tr) : 1 ≤ partsT t := by cases t; unfold partsT; omega
theorem partsL_mem {its : List Tr} {i : Nat} {u : Tr} (h : its[i]? = some u) : partsT u ≤ partsL its := by
  have h1 := partsL_step h
  have h2 := partsL_take its (i + 1)
  omega
theorem partsT_items (t : Tr) : 1 + partsL t.items ≤ partsT t := by
  cases t with
  | node k x s ns its =>
    show 1 + partsL its ≤ partsT _
    unfold partsT
    omega
theorem each_len {n : Nat} {l : List ByteArray} (h : ∀ u, (allF n u l).length ≤ partsT u) : (its : List Tr) → (eachF n its l).length ≤ partsL its
  | [] => by simp [eachF, partsL]
  | t :: ts => by
    have ih := each_len h ts
    unfold eachF at ih ⊢
    rw [List.flatMap_cons, List.length_append, partsL]
    have h1 := h t
    have h2 := parts_pos t
    by_cases h6 : t.kind = 6
    · rw [if_pos h6]; omega
    · rw [if_neg h6, List.length_nil]; omega
theorem allF_len : (n : Nat) → (l : List ByteArray) → (t : Tr) → (allF n t l).length ≤ partsT t
  | n, [], t => by rw [allF_nil]; have := parts_pos t; simpa using this
  | 0, _ :: _, t => by simp [allF]
  | n + 1, s :: r, t => by
    have ht := partsT_items t
    cases hb : placeB t.kind t.names t.items.length s
    · rw [allF_none hb]
      split
      · have := each_len (allF_len n (s :: r)) t.items; omega
      · simp
    · obtain ⟨i, hi, him⟩ := placeB_true hb
      obtain ⟨u, hu⟩ : ∃ u, t.items[i]? = some u := ⟨_, List.getElem?_eq_getElem him⟩
      rw [allF_some hb hi hu]
      have h1 := allF_len n r u
      have h2 := partsL_mem hu
      omega
theorem each_step {n : Nat} {l : List ByteArray} {its : List Tr} {q : Nat} {u : Tr} (h : its[q]? = some u) : eachF n (its.take (q + 1)) l = eachF n (its.take q) l ++ (if u.kind = 6 then allF n u l else []) := by
  unfold eachF
  rw [List.take_add_one, h]
  simp
theorem ItemsRep.app {W : World} : {ts us : List Tr} → {xs ys : List Value} → ItemsRep W ts xs → ItemsRep W us ys → ItemsRep W (ts ++ us) (xs ++ ys)
  | [], us, xs, ys, h, h' => by unfold ItemsRep at h; subst h; simpa using h'
  | t :: ts, us, xs, ys, h, h' => by
    unfold ItemsRep at h
    obtain ⟨c1, r, rfl, h1, h2, h3⟩ := h
    show ItemsRep W (t :: (ts ++ us)) _
    unfold ItemsRep
    exact ⟨c1, r ++ ys, by simp, h1, h2, ItemsRep.app h3 h'⟩
theorem vrep_kind2 {W : World} {t : Tr} {k x : Int} {s : ByteArray} {nm it : Value} (h : VRep W t (five k x s nm it)) : t.kind = k := by
  cases t with
  | node k0 x0 s0 ns its =>
    unfold VRep at h
    obtain ⟨_, _, _, e, _⟩ := h
    unfold five at e
    simp at e
    exact e.1.symm
/-- What gather answers. -/
def GPost (W0 : World) (lo : Nat) (w : World) (m : Nat) (ts r : List Tr) (e : Ending) (w' : World) : Prop :=
  ∃ fv xs, e = .returned fv ∧ w'.ownsRow lo 25 5 fv (m + r.length) xs ∧ ItemsRep W0 (ts ++ r) xs ∧ Below lo w w'
/-- gather of values that are not too deep. -/
def GatherOk (n : Nat) : Prop := ∀ (W0 : World) (t : Tr) (k x : Int) (s : ByteArray) (an : Option Addr) (ln cn : Nat) (ai : Option Addr) (li ci : Nat) (pv : Value) (l : List ByteArray) (w : World) (lo m : Nat) (fv : Value) (ts : List Tr) (xs : List Value),
  SizeOf.sizeOf t ≤ n → Below W0.heap.size W0 w → VRep W0 t (five k x s (.slice an ln cn) (.slice ai li ci)) → Reads W0 pv l → (∀ s ∈ l, s.size ≤ 9223372036854775806) → l.length ≤ 9223372036854775806 → W0.heap.size ≤ lo → lo ≤ w.heap.size → w.ownsRow lo 25 5 fv m xs → ItemsRep W0 ts xs → m + partsT t ≤ 1000000 →
  Calls Try.prog 43 #[fv, .agg #[.int .i64 k, .int .i64 x, .string s, .slice an ln cn, .slice ai li ci], pv] w (GPost W0 lo w m ts (allF n t l))

set_option maxHeartbeats 2000000 in
set_option maxRecDepth 100000 in
theorem each_any (n : Nat) (hG : Hid (GatherOk n)) (W0 : World) (its : List Tr) (a : Option Addr) (c : Nat) (ap : Option Addr) (lp cp : Nat) (l : List ByteArray) (w : World) (lo m : Nat) (fv : Value) (ts : List Tr) (xs : List Value)
    (hn : Hid (∀ u ∈ its, SizeOf.sizeOf u ≤ n)) (hW : Below W0.heap.size W0 w) (hM : its.length ≤ 9223372036854775806) (hL : Hid (its = [] ∨ ∃ b o, a = some ⟨b, o, none⟩ ∧ b < W0.heap.size ∧ VRepL W0 b o its)) (hP : Hid (Reads W0 (.slice ap lp cp) l)) (hS : Hid (∀ s ∈ l, s.size ≤ 9223372036854775806)) (hll : l.length ≤ 9223372036854775806) (hlo : W0.heap.size ≤ lo) (hlw : lo ≤ w.heap.size) (hown : Hid (w.ownsRow lo 25 5 fv m xs)) (hI : Hid (ItemsRep W0 ts xs)) (hb : Hid (m + partsL its ≤ 1000000)) :
    Calls Try.prog 62 #[fv, .slice a its.length c, .slice ap lp cp] w (GPost W0 lo w m ts (eachF n its l)) := by
  obtain ⟨af, cf, rfl⟩ := ownsRow_slice hown.out
  go_enter Try.func62, Try.ntmps62
  go_wp2_with fail
  go_loopw [0, 11] (fun f i wr => ∃ (q : Nat) (ys : List Value), q ≤ its.length ∧ i = .int .i64 q ∧ Below lo w wr ∧ Hid (wr.ownsRow lo 25 5 f (m + (eachF n (its.take q) l).length) ys) ∧ Hid (ItemsRep W0 (ts ++ eachF n (its.take q) l) ys)) (fun _ i _ => its.length - (intOf i).toNat)
  case atStart => exact ⟨0, xs, Nat.zero_le _, rfl, Below.refl _ w, by simpa [eachF] using hown, by simpa [eachF] using hI⟩
  case round =>
    obtain ⟨q, ys, hq, rfl, hbel, hown1, hI1⟩ := hrel
    obtain ⟨a0, c0, rfl⟩ := ownsRow_slice hown1.out
    have hlr : lo ≤ wr.heap.size := Nat.le_trans hlw hbel.size
    have hWr : Below W0.heap.size W0 wr := hW.trans (hbel.mono hlo)
    by_cases hlt : q < its.length
    · have hd : decide ((q : Int) < (its.length : Int)) = true := by simp; omega
      obtain ⟨u, hu⟩ : ∃ u, Hid (its[q]? = some u) := ⟨_, List.getElem?_eq_getElem hlt⟩
      obtain ⟨b, o, rfl, hbl, hV⟩ := hL.out.resolve_left (by intro e; subst e; simp at hlt)
      obtain ⟨cs, hC, hr⟩ := VRepL.at its o q u hV hu.out
      obtain ⟨k2, x2, s2, an2, ln2, cn2, ai2, li2, ci2, rfl⟩ := vrep_five hr
      have g0 := stay hWr (hC 0 _ rfl)
      have g1 := stay hWr (hC 1 _ rfl)
      have g2 := stay hWr (hC 2 _ rfl)
      have g3 := stay hWr (hC 3 _ rfl)
      have g4 := stay hWr (hC 4 _ rfl)
      simp only [Nat.add_zero] at g0
      have hkd := vrep_kind2 hr
      have hst := hid_f (each_step (n := n) (l := l) hu.out)
      have hcnt : Hid (m + (eachF n (its.take q) l).length + partsT u ≤ 1000000) := by
        have h1 := each_len (allF_len n l) (its.take q)
        have h2 := partsL_step hu.out
        have h3 := partsL_take its (q + 1)
        have h4 := hb.out
        exact hid_f (by omega)
      by_cases h6 : k2 = 6
      · subst h6
        have hcall := hid_f (fun p => hG.out W0 u 6 x2 s2 an2 ln2 cn2 ai2 li2 ci2 _ l (wr.alloc p) lo _ _ _ _ (hn.out u (List.mem_of_getElem? hu.out)) (hWr.alloc hWr.size p) hr hP.out hS.out hll hlo (by rw [World.size_alloc]; omega) (hown1.out.alloc p) hI1.out hcnt.out)
        rw [if_pos hkd] at hst
        clear hV hC hr
        go_wp2_with fail
        clear g0 g1 g2 g3 g4
        go_fit (hcall.out _)
        rintro e w1 ⟨fv1, xs1, rfl, h1, h2, h3⟩
        have hbel1 : Below lo w w1 := (hbel.alloc hlr _).trans h3
        replace h1 : Hid (w1.ownsRow lo 25 5 fv1 (m + (eachF n (its.take (q + 1)) l).length) xs1) := by rw [hst.out, List.length_append, ← Nat.add_assoc]; exact h1
        replace h2 : Hid (ItemsRep W0 (ts ++ eachF n (its.take (q + 1)) l) xs1) := by rw [hst.out, ← List.append_assoc]; exact h2
        clear hcall hst hcnt hkd h3
        go_wp2_with fail
        go_roundw
        case rel => exact ⟨q + 1, xs1, by omega, by simp, hbel1, h1, h2⟩
        case measure => simp [intOf]; omega
      · have e6 : (k2 == 6) = false := by simpa using h6
        rw [if_neg (by rw [hkd]; exact h6), List.append_nil] at hst
        have hbel1 : Below lo w (wr.alloc (.cells #[.int .i64 k2, .int .i64 x2, .string s2, .slice an2 ln2 cn2, .slice ai2 li2 ci2] 25)) := hbel.alloc hlr _
        have h1 : Hid ((wr.alloc (.cells #[.int .i64 k2, .int .i64 x2, .string s2, .slice an2 ln2 cn2, .slice ai2 li2 ci2] 25)).ownsRow lo 25 5 (.slice a0 (m + (eachF n (its.take q) l).length) c0) (m + (eachF n (its.take (q + 1)) l).length) ys) := by rw [hst.out]; exact hown1.out.alloc _
        have h2 : Hid (ItemsRep W0 (ts ++ eachF n (its.take (q + 1)) l) ys) := by rw [hst.out]; exact hI1
        clear hV hC hr hst hcnt hkd
        go_wp2_with fail
        go_roundw
        case rel => exact ⟨q + 1, ys, by omega, by simp, hbel1, h1, h2⟩
        case measure => simp [intOf]; omega
    · have hd : decide ((q : Int) < (its.length : Int)) = false := by simp; omega
      obtain rfl : q = its.length := by omega
      rw [List.take_length] at hown1 hI1
      go_wp2_with fail
      go_ret
      exact ⟨_, ys, rfl, by simpa using hown1.out, hI1.out, hbel⟩
end Go.Proofs.Ythebilggokpciaa
