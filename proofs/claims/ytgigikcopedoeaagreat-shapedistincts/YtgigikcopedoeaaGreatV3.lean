import Derived.Test.YtgigikcopedoeaaGreatV1
/-! The order of values, plainly: it is total. -/
namespace Go.Proofs.YtgigikcopedoeaaGreat.Tree
open Go Go.RowKit

def cmpI (a b : Int) : Int := if a < b then -1 else if b < a then 1 else 0
def cmpS (a b : ByteArray) : Int := Lib.compareBytes a.data.toList b.data.toList
def rankZ (k : Int) : Int := if k = 0 then 0 else if k = 3 then 1 else if k = 4 then 2 else if k = 6 then 3 else if k = 5 then 4 else if k = 1 then 5 else if k = 2 then 6 else -1
mutual
/-- The order of two values. -/
def cmpT : Tr → Tr → Int
  | .node k x s ns its, .node k' x' s' ns' its' =>
    if cmpI (rankZ k) (rankZ k') ≠ 0 then cmpI (rankZ k) (rankZ k')
    else if k = 3 then cmpI x x' else if k = 4 then cmpS s s' else if k = 6 then cmpM ns its ns' its' else if k = 5 then cmpL its its' else 0
def cmpL : List Tr → List Tr → Int
  | [], [] => 0
  | [], _ :: _ => -1
  | _ :: _, [] => 1
  | t :: ts, u :: us => if cmpT t u ≠ 0 then cmpT t u else cmpL ts us
def cmpM : List ByteArray → List Tr → List ByteArray → List Tr → Int
  | n :: ns, t :: ts, m :: ms, u :: us => if cmpS n m ≠ 0 then cmpS n m else if cmpT t u ≠ 0 then cmpT t u else cmpM ns ts ms us
  | ns, its, ns', its' => cmpI (min ns.length its.length : Nat) (min ns'.length its'.length : Nat)
end
def lex : List Int → List Int → Int
  | [], [] => 0
  | [], _ :: _ => -1
  | _ :: _, [] => 1
  | x :: l, y :: m => if x < y then -1 else if y < x then 1 else lex l m
def encS (s : List UInt8) : List Int := s.map (fun b => (b.toNat : Int) + 1) ++ [0]
mutual
def enc : Tr → List Int
  | .node k x s ns its => rankZ k :: (if k = 3 then [x] else if k = 4 then encS s.data.toList else if k = 6 then encM ns its else if k = 5 then encL its else [])
def encL : List Tr → List Int
  | [] => [0]
  | t :: ts => 1 :: (enc t ++ encL ts)
def encM : List ByteArray → List Tr → List Int
  | n :: ns, t :: ts => 1 :: (encS n.data.toList ++ (enc t ++ encM ns ts))
  | _, _ => [0]
end
/-- First by one, then by the other. -/
def both (c d : Int) : Int := if c ≠ 0 then c else d
theorem both_zero (d : Int) : both 0 d = d := by simp [both]
theorem both_assoc (a b c : Int) : both (both a b) c = both a (both b c) := by
  unfold both
  by_cases h : a = 0
  · simp [h]
  · simp [h]
theorem lex_cons (x y : Int) (l m : List Int) : lex (x :: l) (y :: m) = both (cmpI x y) (lex l m) := by
  unfold cmpI both; rw [lex]; split <;> (try split) <;> simp_all
theorem lex_S : ∀ (a b : List UInt8) (r q : List Int), lex (encS a ++ r) (encS b ++ q) = both (Lib.compareBytes a b) (lex r q)
  | [], [], r, q => by simp [encS, Lib.compareBytes, lex_cons, both_zero, cmpI]
  | [], b :: bs, r, q => by
    have : (0 : Int) < (b.toNat : Int) + 1 := by omega
    simp [encS, Lib.compareBytes, lex_cons, cmpI, this, both]
  | a :: al, [], r, q => by
    have h1 : ¬ (a.toNat : Int) + 1 < 0 := by omega
    have h2 : (0 : Int) < (a.toNat : Int) + 1 := by omega
    simp [encS, Lib.compareBytes, lex_cons, cmpI, h1, h2, both]
  | a :: al, b :: bs, r, q => by
    have ih := lex_S al bs r q
    unfold encS at ih ⊢
    rw [List.map_cons, List.map_cons, List.cons_append, List.cons_append, List.cons_append, List.cons_append, lex_cons, ih, Lib.compareBytes]
    have e1 : (a < b) ↔ ((a.toNat : Int) + 1 < (b.toNat : Int) + 1) := by rw [UInt8.lt_iff_toNat_lt]; omega
    have e2 : (b < a) ↔ ((b.toNat : Int) + 1 < (a.toNat : Int) + 1) := by rw [UInt8.lt_iff_toNat_lt]; omega
    unfold cmpI
    by_cases h1 : a < b
    · rw [if_pos h1, if_pos (e1.1 h1)]; simp [both]
    · rw [if_neg h1, if_neg (fun h => h1 (e1.2 h))]
      by_cases h2 : b < a
      · rw [if_pos h2, if_pos (e2.1 h2)]; simp [both]
      · rw [if_neg h2, if_neg (fun h => h2 (e2.2 h)), both_zero]
theorem cmpI_zero {a b : Int} (h : cmpI a b = 0) : a = b := by
  unfold cmpI at h; split at h <;> (try split at h) <;> (try omega)
theorem rank_is (k : Int) : (rankZ k = 1 → k = 3) ∧ (rankZ k = 2 → k = 4) ∧ (rankZ k = 3 → k = 6) ∧ (rankZ k = 4 → k = 5) := by
  unfold rankZ
  split
  · refine ⟨?_, ?_, ?_, ?_⟩ <;> intro h <;> omega
  split
  · refine ⟨?_, ?_, ?_, ?_⟩ <;> intro h <;> omega
  split
  · refine ⟨?_, ?_, ?_, ?_⟩ <;> intro h <;> omega
  split
  · refine ⟨?_, ?_, ?_, ?_⟩ <;> intro h <;> omega
  split
  · refine ⟨?_, ?_, ?_, ?_⟩ <;> intro h <;> omega
  split
  · refine ⟨?_, ?_, ?_, ?_⟩ <;> intro h <;> omega
  split
  · refine ⟨?_, ?_, ?_, ?_⟩ <;> intro h <;> omega
  refine ⟨?_, ?_, ?_, ?_⟩ <;> intro h <;> omega
theorem rank_inj {k k' : Int} (h : rankZ k = rankZ k') (h0 : k = 3 ∨ k = 4 ∨ k = 5 ∨ k = 6) : k' = k := by
  obtain ⟨r3, r4, r6, r5⟩ := rank_is k'
  rcases h0 with rfl | rfl | rfl | rfl
  · exact r3 (h.symm.trans (by decide))
  · exact r4 (h.symm.trans (by decide))
  · exact r5 (h.symm.trans (by decide))
  · exact r6 (h.symm.trans (by decide))
theorem rank_other {k k' : Int} (h : rankZ k = rankZ k') (h3 : k ≠ 3) (h4 : k ≠ 4) (h5 : k ≠ 5) (h6 : k ≠ 6) : k' ≠ 3 ∧ k' ≠ 4 ∧ k' ≠ 5 ∧ k' ≠ 6 := by
  refine ⟨?_, ?_, ?_, ?_⟩ <;> intro e <;> have := rank_inj h.symm (by simp [e]) <;> omega
mutual
theorem lex_T : (a b : Tr) → (r q : List Int) → lex (enc a ++ r) (enc b ++ q) = both (cmpT a b) (lex r q)
  | .node k x s ns its, .node k' x' s' ns' its', r, q => by
    unfold enc cmpT
    rw [List.cons_append, List.cons_append, lex_cons]
    by_cases h : cmpI (rankZ k) (rankZ k') = 0
    · rw [h, both_zero, if_neg (c := (0 : Int) ≠ 0) (fun e => e rfl)]
      have hr := cmpI_zero h
      by_cases h3 : k = 3
      · have := rank_inj hr (.inl h3); subst h3; subst this
        rw [if_pos rfl, if_pos rfl, if_pos rfl]
        exact lex_cons x x' r q
      by_cases h4 : k = 4
      · have := rank_inj hr (.inr (.inl h4)); subst h4; subst this
        simp only [if_neg h3, if_pos]
        exact lex_S _ _ r q
      by_cases h6 : k = 6
      · have := rank_inj hr (.inr (.inr (.inr h6))); subst h6; subst this
        simp only [if_neg h3, if_neg h4, if_pos]
        exact lex_M ns its ns' its' r q
      by_cases h5 : k = 5
      · have := rank_inj hr (.inr (.inr (.inl h5))); subst h5; subst this
        simp only [if_neg h3, if_neg h4, if_neg h6, if_pos]
        exact lex_L its its' r q
      · obtain ⟨g3, g4, g5, g6⟩ := rank_other hr h3 h4 h5 h6
        simp only [if_neg h3, if_neg h4, if_neg h6, if_neg h5, if_neg g3, if_neg g4, if_neg g6, if_neg g5]
        simp [both_zero]
    · rw [if_pos h]
      simp [both, h]
theorem lex_L : (a b : List Tr) → (r q : List Int) → lex (encL a ++ r) (encL b ++ q) = both (cmpL a b) (lex r q)
  | [], [], r, q => by simp [encL, cmpL, lex_cons, both_zero, cmpI]
  | [], b :: bs, r, q => by simp [encL, cmpL, lex_cons, both, cmpI]
  | a :: al, [], r, q => by simp [encL, cmpL, lex_cons, both, cmpI]
  | a :: al, b :: bs, r, q => by
    unfold encL cmpL
    rw [List.cons_append, List.cons_append, lex_cons, List.append_assoc, List.append_assoc, lex_T a b, lex_L al bs]
    rw [show cmpI 1 1 = 0 by decide, both_zero, ← both_assoc]
    rfl
theorem lex_M : (ns : List ByteArray) → (a : List Tr) → (ms : List ByteArray) → (b : List Tr) → (r q : List Int) → lex (encM ns a ++ r) (encM ms b ++ q) = both (cmpM ns a ms b) (lex r q)
  | [], a, ms, b, r, q => by
    cases ms <;> cases b <;> simp [encM, cmpM, lex_cons, both, cmpI] <;> omega
  | n :: ns, [], ms, b, r, q => by
    cases ms <;> cases b <;> simp [encM, cmpM, lex_cons, both, cmpI] <;> omega
  | n :: ns, a :: al, [], b, r, q => by
    cases b <;> simp [encM, cmpM, lex_cons, both, cmpI] <;> omega
  | n :: ns, a :: al, m :: ms, [], r, q => by
    simp [encM, cmpM, lex_cons, both, cmpI] <;> omega
  | n :: ns, a :: al, m :: ms, b :: bs, r, q => by
    unfold encM cmpM
    simp only [List.cons_append, List.append_assoc]
    rw [lex_cons, lex_S, lex_T a b, lex_M ns al ms bs]
    rw [show cmpI 1 1 = 0 by decide, both_zero, ← both_assoc, ← both_assoc]
    unfold both cmpS
    split <;> simp_all
end
theorem cmpT_lex (a b : Tr) : cmpT a b = lex (enc a) (enc b) := by
  have := lex_T a b [] []
  simp only [List.append_nil, lex] at this
  rw [this]; unfold both; split <;> simp_all
theorem lex_range : ∀ (a b : List Int), lex a b = -1 ∨ lex a b = 0 ∨ lex a b = 1
  | [], [] => by simp [lex]
  | [], _ :: _ => by simp [lex]
  | _ :: _, [] => by simp [lex]
  | x :: l, y :: m => by
    have := lex_range l m
    rw [lex]; split <;> (try split) <;> simp_all
theorem lex_anti : ∀ (a b : List Int), lex a b = - lex b a
  | [], [] => by simp [lex]
  | [], _ :: _ => by simp [lex]
  | _ :: _, [] => by simp [lex]
  | x :: l, y :: m => by
    have := lex_anti l m
    rw [lex, lex]
    by_cases h : x < y
    · rw [if_pos h, if_neg (by omega), if_pos h]
    · rw [if_neg h]
      by_cases h2 : y < x
      · rw [if_pos h2, if_pos h2]; rfl
      · rw [if_neg h2, if_neg h2, if_neg h, this]
theorem lex_trans : ∀ (a b c : List Int), lex a b ≤ 0 → lex b c ≤ 0 → lex a c ≤ 0
  | [], _, [], _, _ => by simp [lex]
  | [], _, _ :: _, _, _ => by simp [lex]
  | _ :: _, [], _, h, _ => by simp [lex] at h
  | _ :: _, _ :: _, [], _, h => by simp [lex] at h
  | x :: l, y :: m, z :: n, h1, h2 => by
    have ih := lex_trans l m n
    rw [lex] at h1 h2 ⊢
    repeat' split at h1
    all_goals repeat' split at h2
    all_goals repeat' split
    all_goals first | omega | (exfalso; omega) | exact ih h1 h2 | skip
/-- The order is total. -/
theorem cmpT_range (a b : Tr) : cmpT a b = -1 ∨ cmpT a b = 0 ∨ cmpT a b = 1 := by rw [cmpT_lex]; exact lex_range _ _
theorem cmpT_anti (a b : Tr) : cmpT a b = - cmpT b a := by rw [cmpT_lex, cmpT_lex]; exact lex_anti _ _
theorem cmpT_self (a : Tr) : cmpT a a = 0 := by have := cmpT_anti a a; omega
theorem cmpT_trans (a b c : Tr) (h1 : cmpT a b ≤ 0) (h2 : cmpT b c ≤ 0) : cmpT a c ≤ 0 := by rw [cmpT_lex] at *; exact lex_trans _ _ _ h1 h2
theorem cmpT_goes (a b c : Tr) (h1 : 0 ≤ cmpT a b) (h2 : 0 ≤ cmpT b c) : 0 ≤ cmpT a c := by
  have e1 := cmpT_anti a b
  have e2 := cmpT_anti b c
  have e3 := cmpT_anti a c
  have := cmpT_trans c b a (by omega) (by omega)
  omega
end Go.Proofs.YtgigikcopedoeaaGreat.Tree
