import Derived.Test.YtjmneiepcbpdpaaDoorBA
/-! What is read of a key is the value whose key it is. -/
namespace Go.Proofs.YtjmneiepcbpdpaaDoor
open Go Go.RowKit

theorem rangeL_of : (its : List Tr) → (∀ u ∈ its, RangeT u) → RangeL its
  | [], _ => by unfold RangeL; trivial
  | t :: ts, h => by unfold RangeL; exact ⟨h t (.head _), rangeL_of ts (fun u hu => h u (.tail _ hu))⟩
theorem items_of {d : Nat} : (its : List Tr) → (∀ u ∈ its, checkT d u = 0) → itemsT d its = 0
  | [], _ => by rw [itemsT]
  | t :: ts, h => by rw [itemsT, if_pos (h t (.head _))]; exact items_of ts (fun u hu => h u (.tail _ hu))
/-- A value that was read. -/
structure Snd (l : List UInt8) (d p : Nat) (t : Tr) (q : Nat) : Prop where
  at_ : l.drop p = keyT t ++ l.drop q
  lt : p < q
  le : q ≤ l.length
  check : checkT d t = 0
  range : RangeT t
theorem more_true {l : List UInt8} {p q : Nat} (h : moreR l p = .ok true q) : l.drop p = 2 :: l.drop q ∧ q = p + 1 ∧ p < l.length := by
  unfold moreR at h
  cases hb : l[p]? with
  | none => rw [hb] at h; cases h
  | some b =>
    rw [hb] at h
    simp only at h
    have hlt := (List.getElem?_eq_some_iff.1 hb).1
    by_cases h2 : b = 2
    · subst h2
      rw [if_pos rfl] at h
      simp only [Rd.ok.injEq, true_and] at h
      subst h
      exact ⟨get_drop hb, rfl, hlt⟩
    · rw [if_neg h2] at h
      by_cases h1 : b = 1
      · rw [if_pos h1] at h
        simp at h
      · rw [if_neg h1] at h
        cases h
theorem more_false {l : List UInt8} {p q : Nat} (h : moreR l p = .ok false q) : l.drop p = 1 :: l.drop q ∧ q = p + 1 ∧ p < l.length := by
  unfold moreR at h
  cases hb : l[p]? with
  | none => rw [hb] at h; cases h
  | some b =>
    rw [hb] at h
    simp only at h
    have hlt := (List.getElem?_eq_some_iff.1 hb).1
    by_cases h2 : b = 2
    · subst h2
      rw [if_pos rfl] at h
      simp at h
    · rw [if_neg h2] at h
      by_cases h1 : b = 1
      · subst h1
        rw [if_pos rfl] at h
        simp only [Rd.ok.injEq, true_and] at h
        subst h
        exact ⟨get_drop hb, rfl, hlt⟩
      · rw [if_neg h1] at h
        cases h
theorem more_2 {l : List UInt8} {p : Nat} {r : List UInt8} (h : l.drop p = 2 :: r) : moreR l p = .ok true (p + 1) := by
  unfold moreR
  rw [(drop_get h).1]
  rfl
theorem more_1 {l : List UInt8} {p : Nat} {r : List UInt8} (h : l.drop p = 1 :: r) : moreR l p = .ok false (p + 1) := by
  unfold moreR
  rw [(drop_get h).1]
  rfl
theorem list_sound {l : List UInt8} {d : Nat} {val : Nat → Rd Tr} (hv : ∀ p t q, val p = .ok t q → Snd l (d + 1) p t q) : ∀ (f p : Nat) (its : List Tr) (t : Tr) (q : Nat), listR val l f p its = .ok t q →
    ∃ ms, t = .node 5 0 noS [] (its ++ ms) ∧ l.drop p = kyL ms ++ l.drop q ∧ p < q ∧ q ≤ l.length ∧ ∀ u ∈ ms, checkT (d + 1) u = 0 ∧ RangeT u
  | 0, p, its, t, q, h => by rw [listR] at h; cases h
  | f + 1, p, its, t, q, h => by
    rw [listR] at h
    cases hm : moreR l p with
    | no e q' => rw [hm] at h; cases h
    | ok b q' =>
      cases b
      · rw [hm] at h
        simp only [Rd.ok.injEq] at h
        obtain ⟨rfl, rfl⟩ := h
        obtain ⟨e1, e2, e3⟩ := more_false hm
        exact ⟨[], by simp, by rw [kyL]; exact e1, by omega, by omega, by simp⟩
      · rw [hm] at h
        simp only at h
        cases hw : val q' with
        | no e q2 => rw [hw] at h; cases h
        | ok u q2 =>
          rw [hw] at h
          simp only at h
          obtain ⟨ms, e1, e2, e3, e4, e5⟩ := list_sound hv f q2 (its ++ [u]) t q h
          have s := hv _ _ _ hw
          obtain ⟨m1, m2, m3⟩ := more_true hm
          have s1 := s.lt
          refine ⟨u :: ms, by simpa using e1, ?_, by omega, e4, ?_⟩
          · rw [kyL, m1, s.at_, e2]
            simp
          · intro x hx
            rcases List.mem_cons.1 hx with rfl | hx
            · exact ⟨s.check, s.range⟩
            · exact e5 x hx
theorem members_step {d : Nat} {had : List ByteArray} {n : ByteArray} {ns : List ByteArray} {t : Tr} {ts : List Tr} (h1 : Lib.validD n.data.toList = true) (h2 : hasName had n = false) (h3 : checkT d t = 0) : membersT d had (n :: ns) (t :: ts) = membersT d (had ++ [n]) ns ts := by
  rw [membersT, if_neg (by rw [h1]; decide), if_neg (by rw [h2]; decide), if_pos h3]
theorem members_nil {d : Nat} {had ns : List ByteArray} : membersT d had ns [] = 0 := by cases ns <;> rw [membersT]
theorem obj_sound {l : List UInt8} {d : Nat} {val : Nat → Rd Tr} (hv : ∀ p t q, val p = .ok t q → Snd l (d + 1) p t q) : ∀ (f p : Nat) (ns : List ByteArray) (its : List Tr) (t : Tr) (q : Nat), objR val l f p ns its = .ok t q →
    ∃ mn mt, mn.length = mt.length ∧ t = .node 6 0 noS (ns ++ mn) (its ++ mt) ∧ l.drop p = kyM mn mt ++ l.drop q ∧ p < q ∧ q ≤ l.length ∧ membersT (d + 1) ns mn mt = 0 ∧ ∀ u ∈ mt, RangeT u
  | 0, p, ns, its, t, q, h => by rw [objR] at h; cases h
  | f + 1, p, ns, its, t, q, h => by
    rw [objR] at h
    cases hm : moreR l p with
    | no e q' => rw [hm] at h; cases h
    | ok b q' =>
      cases b
      · rw [hm] at h
        simp only [Rd.ok.injEq] at h
        obtain ⟨rfl, rfl⟩ := h
        obtain ⟨e1, e2, e3⟩ := more_false hm
        exact ⟨[], [], rfl, by simp, by rw [ky_nil]; exact e1, by omega, by omega, members_nil, by simp⟩
      · rw [hm] at h
        simp only at h
        cases hx : textR l q' with
        | no e q2 => rw [hx] at h; cases h
        | ok n q2 =>
          rw [hx] at h
          simp only at h
          cases hh : hasName ns n with
          | true => rw [hh, if_pos rfl] at h; cases h
          | false =>
            rw [hh, if_neg (by decide)] at h
            cases hw : val q2 with
            | no e q3 => rw [hw] at h; cases h
            | ok u q3 =>
              rw [hw] at h
              simp only at h
              obtain ⟨mn, mt, e0, e1, e2, e3, e4, e5, e6⟩ := obj_sound hv f q3 (ns ++ [n]) (its ++ [u]) t q h
              have s := hv _ _ _ hw
              obtain ⟨m1, m2, m3⟩ := more_true hm
              obtain ⟨x1, x2, x3, x4⟩ := text_sound hx
              have s1 := s.lt
              refine ⟨n :: mn, u :: mt, by simp [e0], by simpa using e1, ?_, by omega, e4, ?_, ?_⟩
              · rw [kyM, m1, x1, s.at_, e2]
                simp
              · rw [members_step x4 hh s.check]
                exact e5
              · intro y hy
                rcases List.mem_cons.1 hy with rfl | hy
                · exact s.range
                · exact e6 y hy
theorem alone_zero {d : Nat} {k x : Int} {s : ByteArray} {n m : Nat} (h1 : (d : Int) ≤ deepB k) (h2 : 0 ≤ k ∧ k ≤ 6) (h3 : keepsB k x s n m = true) (h4 : Lib.validD s.data.toList = true) (h5 : k = 6 → n = m) : aloneT d k x s n m = 0 := by
  unfold aloneT
  rw [if_neg (by omega), if_neg (by omega), if_neg (by rw [h3]; decide), if_neg (by rw [h4]; decide), if_neg (fun h => h.2 (h5 h.1))]
theorem valid_no : Lib.validD noS.data.toList = true := by rfl
theorem check_leaf {d : Nat} {k x : Int} {s : ByteArray} (hd : d ≤ 64) (hk : k = 0 ∨ k = 1 ∨ k = 2 ∨ k = 3 ∨ k = 4) (h3 : keepsB k x s 0 0 = true) (h4 : Lib.validD s.data.toList = true) : checkT d (.node k x s [] []) = 0 := by
  have h1 : (d : Int) ≤ deepB k := by
    unfold deepB
    have e : (k == 5 || k == 6) = false := by rcases hk with rfl | rfl | rfl | rfl | rfl <;> rfl
    rw [e, if_neg (by decide)]
    omega
  rw [checkT]; simp only [List.length_nil]; rw [if_pos (alone_zero h1 (by omega) h3 h4 (fun _ => rfl)), if_neg (by omega), itemsT]
theorem keeps_0 (k : Int) : keepsB k 0 noS 0 0 = true := by simp [keepsB, noS]
theorem keeps_3 (x : Int) : keepsB 3 x noS 0 0 = true := by simp [keepsB, noS]
theorem keeps_4 (s : ByteArray) : keepsB 4 0 s 0 0 = true := by simp [keepsB]
theorem keeps_5 (m : Nat) : keepsB 5 0 noS 0 m = true := by simp [keepsB, noS]
theorem keeps_6 (n m : Nat) : keepsB 6 0 noS n m = true := by simp [keepsB, noS]
theorem range_leaf {k x : Int} {s : ByteArray} (hx : -9223372036854775808 ≤ x ∧ x ≤ 9223372036854775807) : RangeT (.node k x s [] []) := by unfold RangeT RangeL; exact ⟨hx, trivial⟩
theorem one_sound {l : List UInt8} {d : Nat} {val : Nat → Rd Tr} {deep : Bool} (hd : d ≤ 64) (hdeep : deep = false → d ≤ 63) (hv : ∀ p t q, val p = .ok t q → Snd l (d + 1) p t q) {p : Nat} {t : Tr} {q : Nat} (h : oneR val deep l p = .ok t q) : Snd l d p t q := by
  unfold oneR at h
  cases hb : l[p]? with
  | none => rw [hb] at h; cases h
  | some b =>
    rw [hb] at h
    simp only at h
    have hlt := (List.getElem?_eq_some_iff.1 hb).1
    have hg := get_drop hb
    split at h
    · cases h
    rename_i hdp
    split at h
    · rename_i e
      subst e
      simp only [Rd.ok.injEq] at h
      obtain ⟨rfl, rfl⟩ := h
      exact ⟨by rw [keyT0]; exact hg, by omega, by omega, check_leaf hd (.inl rfl) (keeps_0 _) valid_no, range_leaf (by decide)⟩
    split at h
    · rename_i e
      subst e
      cases hx : numR l (p + 1) with
      | no e q' => rw [hx] at h; cases h
      | ok x q' =>
        rw [hx] at h
        simp only [numV, Rd.ok.injEq] at h
        obtain ⟨rfl, rfl⟩ := h
        obtain ⟨n1, n2, n3, n4⟩ := num_sound hx
        exact ⟨by rw [keyT3, hg, n1]; rfl, by omega, n3, check_leaf hd (by omega) (keeps_3 _) valid_no, range_leaf n4⟩
    split at h
    · rename_i e
      subst e
      cases hx : textR l (p + 1) with
      | no e q' => rw [hx] at h; cases h
      | ok s q' =>
        rw [hx] at h
        simp only [textV, Rd.ok.injEq] at h
        obtain ⟨rfl, rfl⟩ := h
        obtain ⟨n1, n2, n3, n4⟩ := text_sound hx
        exact ⟨by rw [keyT4, hg, n1]; rfl, by omega, n3, check_leaf hd (by omega) (keeps_4 _) n4, range_leaf (by decide)⟩
    split at h
    · rename_i e
      subst e
      have hd3 : d ≤ 63 := hdeep (by cases deep; rfl; exact absurd ⟨.inl rfl, rfl⟩ hdp)
      obtain ⟨mn, mt, e0, e1, e2, e3, e4, e5, e6⟩ := obj_sound hv _ _ _ _ _ _ h
      rw [List.nil_append, List.nil_append] at e1
      subst e1
      refine ⟨by rw [keyT6, hg, e2]; rfl, by omega, e4, ?_, ?_⟩
      · rw [checkT, if_pos (alone_zero (by show (d : Int) ≤ 63; omega) (by omega) (keeps_6 _ _) valid_no (fun _ => e0)), if_pos rfl]
        exact e5
      · unfold RangeT
        exact ⟨by decide, rangeL_of mt e6⟩
    split at h
    · rename_i e
      subst e
      have hd3 : d ≤ 63 := hdeep (by cases deep; rfl; exact absurd ⟨.inr rfl, rfl⟩ hdp)
      obtain ⟨ms, e1, e2, e3, e4, e5⟩ := list_sound hv _ _ _ _ _ h
      rw [List.nil_append] at e1
      subst e1
      refine ⟨by rw [keyT5, hg, e2]; rfl, by omega, e4, ?_, ?_⟩
      · rw [checkT]
        simp only [List.length_nil]
        rw [if_pos (alone_zero (by show (d : Int) ≤ 63; omega) (by omega) (keeps_5 _) valid_no (fun h => absurd h (by decide))), if_neg (by decide)]
        exact items_of ms (fun u hu => (e5 u hu).1)
      · unfold RangeT
        exact ⟨by decide, rangeL_of ms (fun u hu => (e5 u hu).2)⟩
    split at h
    · rename_i e
      subst e
      simp only [Rd.ok.injEq] at h
      obtain ⟨rfl, rfl⟩ := h
      exact ⟨by rw [keyT1]; exact hg, by omega, by omega, check_leaf hd (by omega) (keeps_0 _) valid_no, range_leaf (by decide)⟩
    split at h
    · rename_i e
      subst e
      simp only [Rd.ok.injEq] at h
      obtain ⟨rfl, rfl⟩ := h
      exact ⟨by rw [keyT2]; exact hg, by omega, by omega, check_leaf hd (by omega) (keeps_0 _) valid_no, range_leaf (by decide)⟩
    · cases h
/-- What is read is a good value, and the bytes are its key. -/
theorem val_sound {l : List UInt8} : ∀ (n d : Nat), d + n = 64 → ∀ p t q, valR l n p = .ok t q → Snd l d p t q
  | 0, d, hd, p, t, q, h => by
    rw [valR] at h
    exact one_sound (by omega) (fun e => by cases e) (fun _ _ _ e => by cases e) h
  | n + 1, d, hd, p, t, q, h => by
    rw [valR] at h
    exact one_sound (by omega) (fun _ => by omega) (val_sound n (d + 1) (by omega)) h

theorem list_full {l : List UInt8} {val : Nat → Rd Tr} : ∀ (ms : List Tr) (f p : Nat) (its : List Tr) (r : List UInt8), (∀ u ∈ ms, ∀ p r, l.drop p = keyT u ++ r → val p = .ok u (p + (keyT u).length)) → ms.length < f → l.drop p = kyL ms ++ r →
    listR val l f p its = .ok (.node 5 0 noS [] (its ++ ms)) (p + (kyL ms).length)
  | ms, 0, p, its, r, _, hf, _ => by omega
  | [], f + 1, p, its, r, hv, hf, h => by
    rw [kyL] at h ⊢
    rw [listR, more_1 h]
    simp
  | t :: ts, f + 1, p, its, r, hv, hf, h => by
    rw [kyL] at h ⊢
    have h' : l.drop p = 2 :: (keyT t ++ (kyL ts ++ r)) := by rw [h]; simp
    have e1 := (drop_get h').2.1
    have e2 := hv t (.head _) (p + 1) _ e1
    have e3 := drop_app e1
    rw [listR, more_2 h']
    simp only
    rw [e2]
    simp only
    rw [list_full ts f _ (its ++ [t]) r (fun u hu => hv u (.tail _ hu)) (by simp only [List.length_cons] at hf; omega) e3]
    simp only [List.length_cons, List.length_append, List.append_assoc, List.cons_append, List.nil_append]
    congr 1
    omega
theorem obj_full {l : List UInt8} {d : Nat} {val : Nat → Rd Tr} : ∀ (mn : List ByteArray) (mt : List Tr) (f p : Nat) (ns : List ByteArray) (its : List Tr) (r : List UInt8), mn.length = mt.length → (∀ u ∈ mt, ∀ p r, l.drop p = keyT u ++ r → val p = .ok u (p + (keyT u).length)) → membersT (d + 1) ns mn mt = 0 → mt.length < f → l.drop p = kyM mn mt ++ r →
    objR val l f p ns its = .ok (.node 6 0 noS (ns ++ mn) (its ++ mt)) (p + (kyM mn mt).length)
  | mn, mt, 0, p, ns, its, r, _, _, _, hf, _ => by omega
  | [], [], f + 1, p, ns, its, r, hl, hv, hm, hf, h => by
    rw [ky_nil] at h ⊢
    rw [objR, more_1 h]
    simp
  | [], _ :: _, f + 1, p, ns, its, r, hl, hv, hm, hf, h => by simp at hl
  | _ :: _, [], f + 1, p, ns, its, r, hl, hv, hm, hf, h => by simp at hl
  | n :: mn, t :: ts, f + 1, p, ns, its, r, hl, hv, hm, hf, h => by
    rw [membersT] at hm
    have c1 : Lib.validD n.data.toList = true := by
      cases e : Lib.validD n.data.toList with
      | true => rfl
      | false => rw [if_pos e] at hm; simp at hm
    rw [if_neg (by rw [c1]; decide)] at hm
    have c2 : hasName ns n = false := by
      cases e : hasName ns n with
      | false => rfl
      | true => rw [if_pos e] at hm; simp at hm
    rw [if_neg (by rw [c2]; decide)] at hm
    have c3 : checkT (d + 1) t = 0 := by
      by_cases e : checkT (d + 1) t = 0
      · exact e
      · rw [if_neg e] at hm; exact hm
    rw [if_pos c3] at hm
    rw [kyM] at h ⊢
    have h' : l.drop p = 2 :: (keyS n.data.toList ++ (keyT t ++ (kyM mn ts ++ r))) := by rw [h]; simp
    have e1 := (drop_get h').2.1
    have e2 := text_full c1 e1
    have e3 := drop_app e1
    have e4 := hv t (.head _) _ _ e3
    have e5 := drop_app e3
    rw [objR, more_2 h']
    simp only
    rw [e2]
    simp only
    rw [if_neg (by rw [c2]; decide), e4]
    simp only
    rw [obj_full mn ts f _ (ns ++ [n]) (its ++ [t]) r (by simpa using hl) (fun u hu => hv u (.tail _ hu)) hm (by simp only [List.length_cons] at hf; omega) e5]
    simp only [List.length_cons, List.length_append, List.append_assoc, List.cons_append, List.nil_append]
    congr 1
    omega
theorem canon {d : Nat} {k x : Int} {s : ByteArray} {ns : List ByteArray} {its : List Tr} (h : checkT d (.node k x s ns its) = 0) : (k ≠ 3 → x = 0) ∧ (k ≠ 4 → s = noS) ∧ (k ≠ 6 → ns = []) ∧ (k ≠ 5 → k ≠ 6 → its = []) := by
  obtain ⟨h1, -, -⟩ := check_zero h
  obtain ⟨a1, a2, a3, a4, a5, a6⟩ := aloneT_ok h1
  unfold keepsB at a4
  simp only [Bool.and_eq_true, Bool.or_eq_true, beq_iff_eq, decide_eq_true_eq] at a4
  obtain ⟨⟨⟨b1, b2⟩, b3⟩, b4⟩ := a4
  refine ⟨fun e => b1.resolve_right e, fun e => b2.resolve_right e, fun e => ?_, fun e e' => ?_⟩
  · exact List.eq_nil_of_length_eq_zero (by have := b3.resolve_right e; omega)
  · exact List.eq_nil_of_length_eq_zero (by have := b4.resolve_right (by rintro (h | h); exact e h; exact e' h); omega)
theorem kyL_len : (ms : List Tr) → ms.length < (kyL ms).length
  | [] => by rw [kyL]; simp
  | t :: ts => by have := kyL_len ts; rw [kyL]; simp only [List.length_cons, List.length_append]; omega
theorem kyM_len : (mn : List ByteArray) → (mt : List Tr) → mn.length = mt.length → mt.length < (kyM mn mt).length
  | [], [], _ => by rw [ky_nil]; simp
  | n :: mn, t :: ts, h => by have := kyM_len mn ts (by simpa using h); rw [kyM]; simp only [List.length_cons, List.length_append]; omega
  | [], _ :: _, h => by simp at h
  | _ :: _, [], h => by simp at h
theorem one_full {l : List UInt8} {d : Nat} {val : Nat → Rd Tr} {deep : Bool} (hdeep : deep = true → d = 64) {t : Tr} (hc : checkT d t = 0) (hr : RangeT t) (hv : ∀ u ∈ t.items, ∀ p r, l.drop p = keyT u ++ r → val p = .ok u (p + (keyT u).length)) {p : Nat} {r : List UInt8} (h : l.drop p = keyT t ++ r) : oneR val deep l p = .ok t (p + (keyT t).length) := by
  match t, hc, hr, hv, h with
  | .node k x s ns its, hc, hr, hv, h =>
    obtain ⟨c1, c2, c3, c4⟩ := canon hc
    obtain ⟨h1, hm, -⟩ := check_zero hc
    obtain ⟨a1, a2, a3, a4, a5, a6⟩ := aloneT_ok h1
    have hlen : (keyT (.node k x s ns its)).length ≤ l.length := by
      have := congrArg List.length h
      rw [List.length_drop, List.length_append] at this
      omega
    unfold oneR
    rcases seven a2 a3 with rfl | rfl | rfl | rfl | rfl | rfl | rfl
    · obtain rfl := c1 (by decide)
      obtain rfl := c2 (by decide)
      obtain rfl := c3 (by decide)
      obtain rfl := c4 (by decide) (by decide)
      rw [keyT0] at h ⊢
      rw [(drop_get h).1]
      simp
    · obtain rfl := c1 (by decide)
      obtain rfl := c2 (by decide)
      obtain rfl := c3 (by decide)
      obtain rfl := c4 (by decide) (by decide)
      rw [keyT1] at h ⊢
      rw [(drop_get h).1]
      simp
    · obtain rfl := c1 (by decide)
      obtain rfl := c2 (by decide)
      obtain rfl := c3 (by decide)
      obtain rfl := c4 (by decide) (by decide)
      rw [keyT2] at h ⊢
      rw [(drop_get h).1]
      simp
    · obtain rfl := c2 (by decide)
      obtain rfl := c3 (by decide)
      obtain rfl := c4 (by decide) (by decide)
      rw [keyT3] at h ⊢
      have h' : l.drop p = 16 :: (keyN x ++ r) := h
      unfold RangeT at hr
      have e := num_full hr.1 (drop_get h').2.1
      rw [(drop_get h').1]
      show (if _ then _ else if _ then _ else if _ then _ else _) = _
      rw [if_neg (by simp), if_neg (by decide), if_pos rfl, e]
      simp only [numV, List.length_cons]
      congr 1
      try omega
    · obtain rfl := c1 (by decide)
      obtain rfl := c3 (by decide)
      obtain rfl := c4 (by decide) (by decide)
      rw [keyT4] at h ⊢
      have h' : l.drop p = 32 :: (keyS s.data.toList ++ r) := h
      have e := text_full a5 (drop_get h').2.1
      rw [(drop_get h').1]
      simp only
      rw [if_neg (by simp), if_neg (by decide), if_neg (by decide), if_pos trivial, e]
      simp only [textV, List.length_cons]
      congr 1
      try omega
    · obtain rfl := c1 (by decide)
      obtain rfl := c2 (by decide)
      obtain rfl := c3 (by decide)
      rw [keyT5] at h hlen ⊢
      have h' : l.drop p = 64 :: (kyL its ++ r) := h
      have hk := kyL_len its
      simp only [List.length_cons] at hlen
      have hdp : ¬ deep = true := fun e => by
        have := hdeep e
        have a1' : (d : Int) ≤ 63 := a1
        omega
      rw [(drop_get h').1]
      simp only
      rw [if_neg (fun e => hdp e.2), if_neg (by decide), if_neg (by decide), if_neg (by decide), if_neg (by decide), if_pos trivial, list_full its (l.length + 1) (p + 1) [] r hv (by omega) (drop_get h').2.1]
      simp only [List.nil_append, List.length_cons]
      congr 1
      try omega
    · obtain rfl := c1 (by decide)
      obtain rfl := c2 (by decide)
      rw [keyT6] at h hlen ⊢
      have h' : l.drop p = 48 :: (kyM ns its ++ r) := h
      have hk := kyM_len ns its (a6 rfl)
      simp only [List.length_cons] at hlen
      have hdp : ¬ deep = true := fun e => by
        have := hdeep e
        have a1' : (d : Int) ≤ 63 := a1
        omega
      rw [(drop_get h').1]
      simp only
      rw [if_neg (fun e => hdp e.2), if_neg (by decide), if_neg (by decide), if_neg (by decide), if_pos trivial, obj_full ns its (l.length + 1) (p + 1) [] [] r (a6 rfl) hv (hm rfl) (by omega) (drop_get h').2.1]
      simp only [List.nil_append, List.length_cons]
      congr 1
      try omega
/-- The key of a good value is read as that value. -/
theorem val_full {l : List UInt8} : ∀ (n d : Nat), d + n = 64 → ∀ t, checkT d t = 0 → RangeT t → ∀ p r, l.drop p = keyT t ++ r → valR l n p = .ok t (p + (keyT t).length)
  | 0, d, hd, t, hc, hr, p, r, h => by
    rw [valR]
    refine one_full (fun _ => by omega) hc hr (fun u hu => ?_) h
    match t, hc, hu with
    | .node k x s ns its, hc, hu =>
      obtain ⟨h1, -, -⟩ := check_zero hc
      have h2 : its.length ≠ 0 := fun e => by
        have := List.eq_nil_of_length_eq_zero e
        subst this
        cases hu
      have := aloneT_items h1 h2
      omega
  | n + 1, d, hd, t, hc, hr, p, r, h => by
    rw [valR]
    refine one_full (fun e => by cases e) hc hr (fun u hu => ?_) h
    match t, hc, hr, hu with
    | .node k x s ns its, hc, hr, hu =>
      unfold RangeT at hr
      obtain ⟨i, hi⟩ := List.getElem?_of_mem hu
      exact val_full n (d + 1) (by omega) u ((check_items hc).1 u hu) (RangeL.at hr.2 hi)
/-- The parts of what has a short key are small. -/
theorem keyS_at (s : List UInt8) : s.length ≤ (keyS s).length := by
  induction s with
  | nil => simp
  | cons b s ih =>
    rw [keyS_cons]
    have : 1 ≤ (keyB b).length := by unfold keyB; split <;> simp
    simp only [List.length_cons, List.length_append]
    omega
theorem kyL_mem : (ms : List Tr) → ∀ u ∈ ms, (keyT u).length ≤ (kyL ms).length
  | [], u, hu => by cases hu
  | t :: ts, u, hu => by
    rw [kyL]
    simp only [List.length_cons, List.length_append]
    rcases List.mem_cons.1 hu with rfl | hu
    · omega
    · have := kyL_mem ts u hu
      omega
theorem kyM_mem : (mn : List ByteArray) → (mt : List Tr) → mn.length = mt.length → (∀ u ∈ mt, (keyT u).length ≤ (kyM mn mt).length) ∧ (∀ n ∈ mn, n.size ≤ (kyM mn mt).length)
  | [], [], _ => ⟨(fun u hu => by cases hu), (fun n hn => by cases hn)⟩
  | n :: mn, t :: ts, h => by
    obtain ⟨e1, e2⟩ := kyM_mem mn ts (by simpa using h)
    rw [kyM]
    simp only [List.length_cons, List.length_append]
    refine ⟨fun u hu => ?_, fun m hm => ?_⟩
    · rcases List.mem_cons.1 hu with rfl | hu
      · omega
      · have := e1 u hu
        omega
    · rcases List.mem_cons.1 hm with rfl | hm
      · have := keyS_at m.data.toList
        have e : m.size = m.data.toList.length := by rw [Array.length_toList]; rfl
        omega
      · have := e2 m hm
        omega
  | [], _ :: _, h => by simp at h
  | _ :: _, [], h => by simp at h
theorem smallL_of : (its : List Tr) → (∀ u ∈ its, SmallT u) → SmallL its
  | [], _ => by unfold SmallL; trivial
  | t :: ts, h => by unfold SmallL; exact ⟨h t (.head _), smallL_of ts (fun u hu => h u (.tail _ hu))⟩
theorem small_key (t : Tr) (d : Nat) (hc : checkT d t = 0) (hl : (keyT t).length ≤ 1000000000) : SmallT t := by
  match t, hc, hl with
  | .node k x s ns its, hc, hl =>
    obtain ⟨c1, c2, c3, c4⟩ := canon hc
    obtain ⟨h1, hm, -⟩ := check_zero hc
    obtain ⟨a1, a2, a3, a4, a5, a6⟩ := aloneT_ok h1
    have hrec : (∀ u ∈ its, (keyT u).length ≤ 1000000000) → SmallL its := fun h => smallL_of its (fun u hu => by
      obtain ⟨i, hi⟩ := List.getElem?_of_mem hu
      have hlt : SizeOf.sizeOf u < SizeOf.sizeOf its := tr_lt hi
      exact small_key u (d + 1) ((check_items hc).1 u hu) (h u hu))
    have hs : k ≠ 4 → s.size ≤ 140737488351232 := fun e => by rw [c2 e]; decide
    unfold SmallT
    by_cases h4 : k = 4
    · subst h4
      obtain rfl := c3 (by decide)
      obtain rfl := c4 (by decide) (by decide)
      rw [keyT4] at hl
      have := keyS_at s.data.toList
      have e : s.size = s.data.toList.length := by rw [Array.length_toList]; rfl
      simp only [List.length_cons] at hl
      exact ⟨by omega, by simp, by simp, by simp, by unfold SmallL; trivial⟩
    · by_cases h5 : k = 5
      · subst h5
        obtain rfl := c3 (by decide)
        rw [keyT5] at hl
        have := kyL_len its
        simp only [List.length_cons] at hl
        exact ⟨hs h4, by simp, by simp, by omega, hrec (fun u hu => by have := kyL_mem its u hu; omega)⟩
      · by_cases h6 : k = 6
        · subst h6
          rw [keyT6] at hl
          have e := a6 rfl
          have := kyM_len ns its e
          obtain ⟨m1, m2⟩ := kyM_mem ns its e
          simp only [List.length_cons] at hl
          exact ⟨hs h4, by omega, fun n hn => by have := m2 n hn; omega, by omega, hrec (fun u hu => by have := m1 u hu; omega)⟩
        · obtain rfl := c3 h6
          obtain rfl := c4 h5 h6
          exact ⟨hs h4, by simp, by simp, by simp, by unfold SmallL; trivial⟩
termination_by SizeOf.sizeOf t
decreasing_by simp only [Tr.node.sizeOf_spec]; omega
end Go.Proofs.YtjmneiepcbpdpaaDoor
