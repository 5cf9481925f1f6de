import Derived.Test.YthgnkhpomhcdkaaGreatDoorV2
/-! The order of values, plainly: it is total. -/
namespace Go.Proofs.YthgnkhpomhcdkaaGreatDoor
open Go Go.RowKit

def cmpI (a b : Int) : Int := if a < b then -1 else if b < a then 1 else 0
def cmpS (a b : ByteArray) : Int := Lib.compareBytes a.data.toList b.data.toList
def rankZ (k : Int) : Int := if k = 0 then 0 else if k = 3 then 1 else if k = 4 then 2 else if k = 6 then 3 else if k = 5 then 4 else if k = 1 then 5 else if k = 2 then 6 else -1
mutual
/-- The order of two values. -/
def cmpT : Tr → Tr → Int
  | .node k x s ns its, .node k' x' s' ns' its' =>
    if cmpI (rankZ k) (rankZ k') ≠ 0 then cmpI (rankZ k) (rankZ k')
    else if k = 3 then cmpI x x' else if k = 4 then cmpS s s' else if k = 6 then cmpM ns its ns' its' else if k = 5 then cmpL its its' else 0
def cmpL : List Tr → List Tr → Int
  | [], [] => 0
  | [], _ :: _ => -1
  | _ :: _, [] => 1
  | t :: ts, u :: us => if cmpT t u ≠ 0 then cmpT t u else cmpL ts us
def cmpM : List ByteArray → List Tr → List ByteArray → List Tr → Int
  | n :: ns, t :: ts, m :: ms, u :: us => if cmpS n m ≠ 0 then cmpS n m else if cmpT t u ≠ 0 then cmpT t u else cmpM ns ts ms us
  | ns, its, ns', its' => cmpI (min ns.length its.length : Nat) (min ns'.length its'.length : Nat)
end
def lex : List Int → List Int → Int
  | [], [] => 0
  | [], _ :: _ => -1
  | _ :: _, [] => 1
  | x :: l, y :: m => if x < y then -1 else if y < x then 1 else lex l m
def encS (s : List UInt8) : List Int := s.map (fun b => (b.toNat : Int) + 1) ++ [0]
mutual
def enc : Tr → List Int
  | .node k x s ns its => rankZ k :: (if k = 3 then [x] else if k = 4 then encS s.data.toList else if k = 6 then encM ns its else if k = 5 then encL its else [])
def encL : List Tr → List Int
  | [] => [0]
  | t :: ts => 1 :: (enc t ++ encL ts)
def encM : List ByteArray → List Tr → List Int
  | n :: ns, t :: ts => 1 :: (encS n.data.toList ++ (enc t ++ encM ns ts))
  | _, _ => [0]
end
/-- First by one, then by the other. -/
def both (c d : Int) : Int := if c ≠ 0 then c else d
theorem both_zero (d : Int) : both 0 d = d := by simp [both]
theorem both_assoc (a b c : Int) : both (both a b) c = both a (both b c) := by
  unfold both
  by_cases h : a = 0
  · simp [h]
  · simp [h]
theorem lex_cons (x y : Int) (l m : List Int) : lex (x :: l) (y :: m) = both (cmpI x y) (lex l m) := by
  unfold cmpI both; rw [lex]; split <;> (try split) <;> simp_all
theorem lex_S : ∀ (a b : List UInt8) (r q : List Int), lex (encS a ++ r) (encS b ++ q) = both (Lib.compareBytes a b) (lex r q)
  | [], [], r, q => by simp [encS, Lib.compareBytes, lex_cons, both_zero, cmpI]
  | [], b :: bs, r, q => by
    have : (0 : Int) < (b.toNat : Int) + 1 := by omega
    simp [encS, Lib.compareBytes, lex_cons, cmpI, this, both]
  | a :: al, [], r, q => by
    have h1 : ¬ (a.toNat : Int) + 1 < 0 := by omega
    have h2 : (0 : Int) < (a.toNat : Int) + 1 := by omega
    simp [encS, Lib.compareBytes, lex_cons, cmpI, h1, h2, both]
  | a :: al, b :: bs, r, q => by
    have ih := lex_S al bs r q
    unfold encS at ih ⊢
    rw [List.map_cons, List.map_cons, List.cons_append, List.cons_append, List.cons_append, List.cons_append, lex_cons, ih, Lib.compareBytes]
    have e1 : (a < b) ↔ ((a.toNat : Int) + 1 < (b.toNat : Int) + 1) := by rw [UInt8.lt_iff_toNat_lt]; omega
    have e2 : (b < a) ↔ ((b.toNat : Int) + 1 < (a.toNat : Int) + 1) := by rw [UInt8.lt_iff_toNat_lt]; omega
    unfold cmpI
    by_cases h1 : a < b
    · rw [if_pos h1, if_pos (e1.1 h1)]; simp [both]
    · rw [if_neg h1, if_neg (fun h => h1 (e1.2 h))]
      by_cases h2 : b < a
      · rw [if_pos h2, if_pos (e2.1 h2)]; simp [both]
      · rw [if_neg h2, if_neg (fun h => h2 (e2.2 h)), both_zero]
theorem cmpI_zero {a b : Int} (h : cmpI a b = 0) : a = b := by
  unfold cmpI at h; split at h <;> (try split at h) <;> (try omega)
theorem rank_is (k : Int) : (rankZ k = 1 → k = 3) ∧ (rankZ k = 2 → k = 4) ∧ (rankZ k = 3 → k = 6) ∧ (rankZ k = 4 → k = 5) := by
  unfold rankZ
  split
  · refine ⟨?_, ?_, ?_, ?_⟩ <;> intro h <;> omega
  split
  · refine ⟨?_, ?_, ?_, ?_⟩ <;> intro h <;> omega
  split
  · refine ⟨?_, ?_, ?_, ?_⟩ <;> intro h <;> omega
  split
  · refine ⟨?_, ?_, ?_, ?_⟩ <;> intro h <;> omega
  split
  · refine ⟨?_, ?_, ?_, ?_⟩ <;> intro h <;> omega
  split
  · refine ⟨?_, ?_, ?_, ?_⟩ <;> intro h <;> omega
  split
  · refine ⟨?_, ?_, ?_, ?_⟩ <;> intro h <;> omega
  refine ⟨?_, ?_, ?_, ?_⟩ <;> intro h <;> omega
theorem rank_inj {k k' : Int} (h : rankZ k = rankZ k') (h0 : k = 3 ∨ k = 4 ∨ k = 5 ∨ k = 6) : k' = k := by
  obtain ⟨r3, r4, r6, r5⟩ := rank_is k'
  rcases h0 with rfl | rfl | rfl | rfl
  · exact r3 (h.symm.trans (by decide))
  · exact r4 (h.symm.trans (by decide))
  · exact r5 (h.symm.trans (by decide))
  · exact r6 (h.symm.trans (by decide))
theorem rank_other {k k' : Int} (h : rankZ k = rankZ k') (h3 : k ≠ 3) (h4 : k ≠ 4) (h5 : k ≠ 5) (h6 : k ≠ 6) : k' ≠ 3 ∧ k' ≠ 4 ∧ k' ≠ 5 ∧ k' ≠ 6 := by
  refine ⟨?_, ?_, ?_, ?_⟩ <;> intro e <;> have := rank_inj h.symm (by simp [e]) <;> omega
mutual
theorem lex_T : (a b : Tr) → (r q : List Int) → lex (enc a ++ r) (enc b ++ q) = both (cmpT a b) (lex r q)
  | .node k x s ns its, .node k' x' s' ns' its', r, q => by
    unfold enc cmpT
    rw [List.cons_append, List.cons_append, lex_cons]
    by_cases h : cmpI (rankZ k) (rankZ k') = 0
    · rw [h, both_zero, if_neg (c := (0 : Int) ≠ 0) (fun e => e rfl)]
      have hr := cmpI_zero h
      by_cases h3 : k = 3
      · have := rank_inj hr (.inl h3); subst h3; subst this
        rw [if_pos rfl, if_pos rfl, if_pos rfl]
        exact lex_cons x x' r q
      by_cases h4 : k = 4
      · have := rank_inj hr (.inr (.inl h4)); subst h4; subst this
        simp only [if_neg h3, if_pos]
        exact lex_S _ _ r q
      by_cases h6 : k = 6
      · have := rank_inj hr (.inr (.inr (.inr h6))); subst h6; subst this
        simp only [if_neg h3, if_neg h4, if_pos]
        exact lex_M ns its ns' its' r q
      by_cases h5 : k = 5
      · have := rank_inj hr (.inr (.inr (.inl h5))); subst h5; subst this
        simp only [if_neg h3, if_neg h4, if_neg h6, if_pos]
        exact lex_L its its' r q
      · obtain ⟨g3, g4, g5, g6⟩ := rank_other hr h3 h4 h5 h6
        simp only [if_neg h3, if_neg h4, if_neg h6, if_neg h5, if_neg g3, if_neg g4, if_neg g6, if_neg g5]
        simp [both_zero]
    · rw [if_pos h]
      simp [both, h]
theorem lex_L : (a b : List Tr) → (r q : List Int) → lex (encL a ++ r) (encL b ++ q) = both (cmpL a b) (lex r q)
  | [], [], r, q => by simp [encL, cmpL, lex_cons, both_zero, cmpI]
  | [], b :: bs, r, q => by simp [encL, cmpL, lex_cons, both, cmpI]
  | a :: al, [], r, q => by simp [encL, cmpL, lex_cons, both, cmpI]
  | a :: al, b :: bs, r, q => by
    unfold encL cmpL
    rw [List.cons_append, List.cons_append, lex_cons, List.append_assoc, List.append_assoc, lex_T a b, lex_L al bs]
    rw [show cmpI 1 1 = 0 by decide, both_zero, ← both_assoc]
    rfl
theorem lex_M : (ns : List ByteArray) → (a : List Tr) → (ms : List ByteArray) → (b : List Tr) → (r q : List Int) → lex (encM ns a ++ r) (encM ms b ++ q) = both (cmpM ns a ms b) (lex r q)
  | [], a, ms, b, r, q => by
    cases ms <;> cases b <;> simp [encM, cmpM, lex_cons, both, cmpI] <;> omega
  | n :: ns, [], ms, b, r, q => by
    cases ms <;> cases b <;> simp [encM, cmpM, lex_cons, both, cmpI] <;> omega
  | n :: ns, a :: al, [], b, r, q => by
    cases b <;> simp [encM, cmpM, lex_cons, both, cmpI] <;> omega
  | n :: ns, a :: al, m :: ms, [], r, q => by
    simp [encM, cmpM, lex_cons, both, cmpI] <;> omega
  | n :: ns, a :: al, m :: ms, b :: bs, r, q => by
    unfold encM cmpM
    simp only [List.cons_append, List.append_assoc]
    rw [lex_cons, lex_S, lex_T a b, lex_M ns al ms bs]
    rw [show cmpI 1 1 = 0 by decide, both_zero, ← both_assoc, ← both_assoc]
    unfold both cmpS
    split <;> simp_all
end
theorem cmpT_lex (a b : Tr) : cmpT a b = lex (enc a) (enc b) := by
  have := lex_T a b [] []
  simp only [List.append_nil, lex] at this
  rw [this]; unfold both; split <;> simp_all
theorem lex_range : ∀ (a b : List Int), lex a b = -1 ∨ lex a b = 0 ∨ lex a b = 1
  | [], [] => by simp [lex]
  | [], _ :: _ => by simp [lex]
  | _ :: _, [] => by simp [lex]
  | x :: l, y :: m => by
    have := lex_range l m
    rw [lex]; split <;> (try split) <;> simp_all
theorem lex_anti : ∀ (a b : List Int), lex a b = - lex b a
  | [], [] => by simp [lex]
  | [], _ :: _ => by simp [lex]
  | _ :: _, [] => by simp [lex]
  | x :: l, y :: m => by
    have := lex_anti l m
    rw [lex, lex]
    by_cases h : x < y
    · rw [if_pos h, if_neg (by omega), if_pos h]
    · rw [if_neg h]
      by_cases h2 : y < x
      · rw [if_pos h2, if_pos h2]; rfl
      · rw [if_neg h2, if_neg h2, if_neg h, this]
theorem lex_trans : ∀ (a b c : List Int), lex a b ≤ 0 → lex b c ≤ 0 → lex a c ≤ 0
  | [], _, [], _, _ => by simp [lex]
  | [], _, _ :: _, _, _ => by simp [lex]
  | _ :: _, [], _, h, _ => by simp [lex] at h
  | _ :: _, _ :: _, [], _, h => by simp [lex] at h
  | x :: l, y :: m, z :: n, h1, h2 => by
    have ih := lex_trans l m n
    rw [lex] at h1 h2 ⊢
    repeat' split at h1
    all_goals repeat' split at h2
    all_goals repeat' split
    all_goals first | omega | (exfalso; omega) | exact ih h1 h2 | skip
/-- The order is total. -/
theorem cmpT_range (a b : Tr) : cmpT a b = -1 ∨ cmpT a b = 0 ∨ cmpT a b = 1 := by rw [cmpT_lex]; exact lex_range _ _
theorem cmpT_anti (a b : Tr) : cmpT a b = - cmpT b a := by rw [cmpT_lex, cmpT_lex]; exact lex_anti _ _
theorem cmpT_self (a : Tr) : cmpT a a = 0 := by have := cmpT_anti a a; omega
theorem cmpT_trans (a b c : Tr) (h1 : cmpT a b ≤ 0) (h2 : cmpT b c ≤ 0) : cmpT a c ≤ 0 := by rw [cmpT_lex] at *; exact lex_trans _ _ _ h1 h2
theorem cmpT_goes (a b c : Tr) (h1 : 0 ≤ cmpT a b) (h2 : 0 ≤ cmpT b c) : 0 ≤ cmpT a c := by
  have e1 := cmpT_anti a b
  have e2 := cmpT_anti b c
  have e3 := cmpT_anti a c
  have := cmpT_trans c b a (by omega) (by omega)
  omega
end Go.Proofs.YthgnkhpomhcdkaaGreatDoor
/-! The bytes of values lie as the values do. -/
namespace Go.Proofs.YthgnkhpomhcdkaaGreatDoor
open Go Go.RowKit

def cmpB (a b : List UInt8) : Int := Lib.compareBytes a b
theorem cmpB_cons (x y : UInt8) (l m : List UInt8) : cmpB (x :: l) (y :: m) = both (cmpI (x.toNat : Int) (y.toNat : Int)) (cmpB l m) := by
  unfold cmpB cmpI both
  rw [Lib.compareBytes]
  by_cases h1 : x.toNat < y.toNat
  · have h1' : (x.toNat : Int) < (y.toNat : Int) := by omega
    have hx : x < y := by rw [UInt8.lt_iff_toNat_lt]; exact h1
    simp [h1', hx]
  · by_cases h2 : y.toNat < x.toNat
    · have h2' : (y.toNat : Int) < (x.toNat : Int) := by omega
      have h1' : ¬ (x.toNat : Int) < (y.toNat : Int) := by omega
      have hx : ¬ x < y := by rw [UInt8.lt_iff_toNat_lt]; exact h1
      have hy : y < x := by rw [UInt8.lt_iff_toNat_lt]; exact h2
      simp [h1', h2', hx, hy]
    · have h2' : ¬ (y.toNat : Int) < (x.toNat : Int) := by omega
      have h1' : ¬ (x.toNat : Int) < (y.toNat : Int) := by omega
      have hx : ¬ x < y := by rw [UInt8.lt_iff_toNat_lt]; exact h1
      have hy : ¬ y < x := by rw [UInt8.lt_iff_toNat_lt]; exact h2
      simp [h1', h2', hx, hy]
theorem cmpB_same (x : UInt8) (l m : List UInt8) : cmpB (x :: l) (x :: m) = cmpB l m := by
  rw [cmpB_cons]
  unfold cmpI both
  simp
theorem cmpB_lt {x y : UInt8} (h : x.toNat < y.toNat) (l m : List UInt8) : cmpB (x :: l) (y :: m) = -1 := by
  rw [cmpB_cons]
  unfold cmpI both
  have : (x.toNat : Int) < (y.toNat : Int) := by omega
  simp [this]
theorem cmpB_gt {x y : UInt8} (h : y.toNat < x.toNat) (l m : List UInt8) : cmpB (x :: l) (y :: m) = 1 := by
  rw [cmpB_cons]
  unfold cmpI both
  have h1 : (y.toNat : Int) < (x.toNat : Int) := by omega
  have h2 : ¬ (x.toNat : Int) < (y.toNat : Int) := by omega
  simp [h1, h2]
def keyB (b : UInt8) : List UInt8 := if b = 0 then [0, 255] else [b]
def keyS (s : List UInt8) : List UInt8 := s.flatMap keyB ++ [0, 1]
theorem keyS_nil : keyS [] = [0, 1] := rfl
theorem keyS_cons (b : UInt8) (s : List UInt8) : keyS (b :: s) = keyB b ++ keyS s := by unfold keyS; simp [List.append_assoc]
theorem pos_of {b : UInt8} (h : b ≠ 0) : 0 < b.toNat := by
  rcases Nat.eq_zero_or_pos b.toNat with e | e
  · exact absurd (UInt8.toNat_inj.1 (by simpa using e)) h
  · exact e
theorem cmpI_m1 {a b : Int} (h : a < b) : cmpI a b = -1 := by unfold cmpI; rw [if_pos h]
theorem cmpI_p1 {a b : Int} (h : b < a) : cmpI a b = 1 := by unfold cmpI; rw [if_neg (by omega), if_pos h]
theorem pos_of' {b : UInt8} (h : b ≠ 0) : (0 : UInt8).toNat < b.toNat := pos_of h
theorem cmpB_S : ∀ (a b : List UInt8) (r q : List UInt8), cmpB (keyS a ++ r) (keyS b ++ q) = both (cmpB a b) (cmpB r q)
  | [], [], r, q => by
    rw [keyS_nil]
    show cmpB (0 :: 1 :: r) (0 :: 1 :: q) = _
    rw [cmpB_same, cmpB_same]
    exact (both_zero _).symm
  | [], y :: bs, r, q => by
    rw [keyS_nil, keyS_cons]
    have e : both (cmpB [] (y :: bs)) (cmpB r q) = -1 := rfl
    rw [e]
    unfold keyB
    by_cases h : y = 0
    · rw [if_pos h]
      show cmpB (0 :: 1 :: r) (0 :: 255 :: _) = -1
      rw [cmpB_same, cmpB_lt (by decide)]
    · rw [if_neg h]
      show cmpB (0 :: 1 :: r) (y :: _) = -1
      exact cmpB_lt (pos_of' h) _ _
  | x :: al, [], r, q => by
    rw [keyS_nil, keyS_cons]
    have e : both (cmpB (x :: al) []) (cmpB r q) = 1 := rfl
    rw [e]
    unfold keyB
    by_cases h : x = 0
    · rw [if_pos h]
      show cmpB (0 :: 255 :: _) (0 :: 1 :: q) = 1
      rw [cmpB_same, cmpB_gt (by decide)]
    · rw [if_neg h]
      show cmpB (x :: _) (0 :: 1 :: q) = 1
      exact cmpB_gt (pos_of' h) _ _
  | x :: al, y :: bs, r, q => by
    have ih := cmpB_S al bs r q
    rw [keyS_cons, keyS_cons, cmpB_cons, both_assoc, ← ih]
    unfold keyB
    by_cases hx : x = 0
    · by_cases hy : y = 0
      · subst hx hy
        rw [if_pos rfl]
        show cmpB (0 :: 255 :: (keyS al ++ r)) (0 :: 255 :: (keyS bs ++ q)) = _
        rw [cmpB_same, cmpB_same]
        unfold cmpI both
        simp
      · subst hx
        rw [if_pos rfl, if_neg hy]
        show cmpB (0 :: 255 :: (keyS al ++ r)) (y :: (keyS bs ++ q)) = _
        rw [cmpB_lt (pos_of' hy)]
        have h1 : ((0 : UInt8).toNat : Int) < (y.toNat : Int) := by have := pos_of' hy; omega
        rw [cmpI_m1 h1]
        rfl
    · by_cases hy : y = 0
      · subst hy
        rw [if_neg hx, if_pos rfl]
        show cmpB (x :: (keyS al ++ r)) (0 :: 255 :: (keyS bs ++ q)) = _
        rw [cmpB_gt (pos_of' hx)]
        have h1 : ((0 : UInt8).toNat : Int) < (x.toNat : Int) := by have := pos_of' hx; omega
        rw [cmpI_p1 h1]
        rfl
      · rw [if_neg hx, if_neg hy]
        show cmpB (x :: (keyS al ++ r)) (y :: (keyS bs ++ q)) = _
        rw [cmpB_cons]
/-- The n bytes of a number, the greatest first. -/
def be : Nat → Nat → List UInt8
  | 0, _ => []
  | n + 1, u => UInt8.ofNat (u / 256 ^ n) :: be n (u % 256 ^ n)
theorem be_len : ∀ n u, (be n u).length = n
  | 0, _ => rfl
  | n + 1, u => by rw [be, List.length_cons, be_len n]
theorem cmpB_be : ∀ (n u v : Nat), u < 256 ^ n → v < 256 ^ n → ∀ r q, cmpB (be n u ++ r) (be n v ++ q) = both (cmpI (u : Int) (v : Int)) (cmpB r q)
  | 0, u, v, hu, hv, r, q => by
    have e1 : u = 0 := by simpa using hu
    have e2 : v = 0 := by simpa using hv
    subst e1 e2
    show cmpB r q = _
    unfold cmpI both
    simp
  | n + 1, u, v, hu, hv, r, q => by
    have hp : 0 < 256 ^ n := Nat.pow_pos (by decide)
    have hu1 : u / 256 ^ n < 256 := by rw [Nat.div_lt_iff_lt_mul hp, ← Nat.pow_succ']; exact hu
    have hv1 : v / 256 ^ n < 256 := by rw [Nat.div_lt_iff_lt_mul hp, ← Nat.pow_succ']; exact hv
    have ih := cmpB_be n (u % 256 ^ n) (v % 256 ^ n) (Nat.mod_lt _ hp) (Nat.mod_lt _ hp) r q
    rw [be, be]
    show cmpB (UInt8.ofNat (u / 256 ^ n) :: (be n (u % 256 ^ n) ++ r)) (UInt8.ofNat (v / 256 ^ n) :: (be n (v % 256 ^ n) ++ q)) = _
    rw [cmpB_cons, ih, ← both_assoc]
    congr 1
    have t1 : (UInt8.ofNat (u / 256 ^ n)).toNat = u / 256 ^ n := by rw [UInt8.toNat_ofNat']; exact Nat.mod_eq_of_lt (by simpa using hu1)
    have t2 : (UInt8.ofNat (v / 256 ^ n)).toNat = v / 256 ^ n := by rw [UInt8.toNat_ofNat']; exact Nat.mod_eq_of_lt (by simpa using hv1)
    rw [t1, t2]
    have du := Nat.div_add_mod u (256 ^ n)
    have dv := Nat.div_add_mod v (256 ^ n)
    have mu := Nat.mod_lt u hp
    have mv := Nat.mod_lt v hp
    generalize 256 ^ n = P at *
    generalize u / P = a at *
    generalize v / P = b at *
    generalize u % P = c at *
    generalize v % P = d at *
    subst du dv
    unfold cmpI both
    rcases Nat.lt_trichotomy a b with h | h | h
    · have h1 : (a : Int) < (b : Int) := by omega
      have h2 : P * a + P ≤ P * b := by rw [← Nat.mul_succ]; exact Nat.mul_le_mul_left _ h
      have h3 : ((P * a + c : Nat) : Int) < ((P * b + d : Nat) : Int) := by omega
      simp only [if_pos h1, if_pos h3]
      simp
    · subst h
      have h1 : ¬ (a : Int) < (a : Int) := by omega
      simp only [if_neg h1]
      simp only [ne_eq, not_true_eq_false, if_false]
      by_cases h4 : (c : Int) < (d : Int)
      · rw [if_pos h4, if_pos (by omega)]
      · by_cases h5 : (d : Int) < (c : Int)
        · rw [if_neg h4, if_pos h5, if_neg (by omega), if_pos (by omega)]
        · rw [if_neg h4, if_neg h5, if_neg (by omega), if_neg (by omega)]
    · have h1 : (b : Int) < (a : Int) := by omega
      have h1' : ¬ (a : Int) < (b : Int) := by omega
      have h2 : P * b + P ≤ P * a := by rw [← Nat.mul_succ]; exact Nat.mul_le_mul_left _ h
      have h3 : ((P * b + d : Nat) : Int) < ((P * a + c : Nat) : Int) := by omega
      have h3' : ¬ ((P * a + c : Nat) : Int) < ((P * b + d : Nat) : Int) := by omega
      simp only [if_neg h1', if_pos h1, if_neg h3', if_pos h3]
      simp
def keyN (x : Int) : List UInt8 := be 8 (x + 9223372036854775808).toNat
theorem cmpB_N (x y : Int) (hx : -9223372036854775808 ≤ x ∧ x ≤ 9223372036854775807) (hy : -9223372036854775808 ≤ y ∧ y ≤ 9223372036854775807) (r q : List UInt8) : cmpB (keyN x ++ r) (keyN y ++ q) = both (cmpI x y) (cmpB r q) := by
  unfold keyN
  rw [cmpB_be 8 _ _ (by omega) (by omega)]
  congr 1
  unfold cmpI
  have e1 : ((x + 9223372036854775808).toNat : Int) = x + 9223372036854775808 := by omega
  have e2 : ((y + 9223372036854775808).toNat : Int) = y + 9223372036854775808 := by omega
  rw [e1, e2]
  by_cases h1 : x < y
  · rw [if_pos h1, if_pos (by omega)]
  · by_cases h2 : y < x
    · rw [if_neg h1, if_pos h2, if_neg (by omega), if_pos (by omega)]
    · rw [if_neg h1, if_neg h2, if_neg (by omega), if_neg (by omega)]
/-- The first byte of a kind. -/
def firstB (k : Int) : UInt8 := if k = 3 then 16 else if k = 4 then 32 else if k = 6 then 48 else if k = 5 then 64 else if k = 1 then 80 else if k = 2 then 81 else 5
mutual
/-- The bytes of a value. -/
def keyT : Tr → List UInt8
  | .node k x s ns its => firstB k :: (if k = 3 then keyN x else if k = 4 then keyS s.data.toList else if k = 6 then kyM ns its else if k = 5 then kyL its else [])
def kyL : List Tr → List UInt8
  | [] => [1]
  | t :: ts => 2 :: (keyT t ++ kyL ts)
def kyM : List ByteArray → List Tr → List UInt8
  | n :: ns, t :: ts => 2 :: (keyS n.data.toList ++ (keyT t ++ kyM ns ts))
  | _, _ => [1]
end
mutual
/-- A value as Check lets it through. -/
def GoodK : Tr → Prop
  | .node k x _ ns its => (0 ≤ k ∧ k ≤ 6) ∧ (-9223372036854775808 ≤ x ∧ x ≤ 9223372036854775807) ∧ (k = 6 → ns.length = its.length) ∧ GoodKL its
def GoodKL : List Tr → Prop
  | [] => True
  | t :: ts => GoodK t ∧ GoodKL ts
end
theorem firstB_rank {k k' : Int} (h : 0 ≤ k ∧ k ≤ 6) (h' : 0 ≤ k' ∧ k' ≤ 6) : cmpI ((firstB k).toNat : Int) ((firstB k').toNat : Int) = cmpI (rankZ k) (rankZ k') := by
  have : k = 0 ∨ k = 1 ∨ k = 2 ∨ k = 3 ∨ k = 4 ∨ k = 5 ∨ k = 6 := by omega
  have : k' = 0 ∨ k' = 1 ∨ k' = 2 ∨ k' = 3 ∨ k' = 4 ∨ k' = 5 ∨ k' = 6 := by omega
  rcases ‹k = 0 ∨ _› with rfl | rfl | rfl | rfl | rfl | rfl | rfl <;> rcases ‹k' = 0 ∨ _› with rfl | rfl | rfl | rfl | rfl | rfl | rfl <;> rfl
theorem rank_eq {k k' : Int} (h : 0 ≤ k ∧ k ≤ 6) (h' : 0 ≤ k' ∧ k' ≤ 6) (e : cmpI (rankZ k) (rankZ k') = 0) : k = k' := by
  have : k = 0 ∨ k = 1 ∨ k = 2 ∨ k = 3 ∨ k = 4 ∨ k = 5 ∨ k = 6 := by omega
  have : k' = 0 ∨ k' = 1 ∨ k' = 2 ∨ k' = 3 ∨ k' = 4 ∨ k' = 5 ∨ k' = 6 := by omega
  rcases ‹k = 0 ∨ _› with rfl | rfl | rfl | rfl | rfl | rfl | rfl <;> rcases ‹k' = 0 ∨ _› with rfl | rfl | rfl | rfl | rfl | rfl | rfl <;> first | rfl | (exact absurd e (by decide))
theorem ky_nil : kyM [] [] = [1] := by unfold kyM; rfl
mutual
theorem cmpB_T : (a b : Tr) → GoodK a → GoodK b → (r q : List UInt8) → cmpB (keyT a ++ r) (keyT b ++ q) = both (cmpT a b) (cmpB r q)
  | .node k x s ns its, .node k' x' s' ns' its', ha, hb, r, q => by
    unfold GoodK at ha hb
    obtain ⟨hk, hx, hn, hl⟩ := ha
    obtain ⟨hk', hx', hn', hl'⟩ := hb
    rw [keyT, keyT, cmpT]
    show cmpB (firstB k :: (_ ++ r)) (firstB k' :: (_ ++ q)) = _
    rw [cmpB_cons, firstB_rank hk hk']
    by_cases e : cmpI (rankZ k) (rankZ k') = 0
    · obtain rfl := rank_eq hk hk' e
      rw [e, both_zero, if_neg (show ¬ ((0 : Int) ≠ 0) by simp)]
      by_cases h3 : k = 3
      · simp only [if_pos h3]
        exact cmpB_N x x' hx hx' r q
      · by_cases h4 : k = 4
        · simp only [if_neg h3, if_pos h4]
          exact cmpB_S _ _ r q
        · by_cases h6 : k = 6
          · simp only [if_neg h3, if_neg h4, if_pos h6]
            exact cmpB_M ns its ns' its' (hn h6) (hn' h6) hl hl' r q
          · by_cases h5 : k = 5
            · simp only [if_neg h3, if_neg h4, if_neg h6, if_pos h5]
              exact cmpB_L its its' hl hl' r q
            · simp only [if_neg h3, if_neg h4, if_neg h6, if_neg h5]
              rw [both_zero]
              rfl
    · rw [if_pos e]
      unfold both
      rw [if_pos e, if_pos e]
theorem cmpB_L : (a b : List Tr) → GoodKL a → GoodKL b → (r q : List UInt8) → cmpB (kyL a ++ r) (kyL b ++ q) = both (cmpL a b) (cmpB r q)
  | [], [], _, _, r, q => by
    rw [kyL, cmpL, both_zero]
    show cmpB (1 :: r) (1 :: q) = _
    rw [cmpB_same]
  | [], u :: us, _, _, r, q => by
    rw [kyL, kyL, cmpL]
    show cmpB (1 :: r) (2 :: _) = _
    rw [cmpB_lt (by decide)]
    rfl
  | t :: ts, [], _, _, r, q => by
    rw [kyL, kyL, cmpL]
    show cmpB (2 :: _) (1 :: q) = _
    rw [cmpB_gt (by decide)]
    rfl
  | t :: ts, u :: us, ha, hb, r, q => by
    unfold GoodKL at ha hb
    rw [kyL, kyL, cmpL]
    show cmpB (2 :: ((keyT t ++ kyL ts) ++ r)) (2 :: ((keyT u ++ kyL us) ++ q)) = _
    rw [cmpB_same, List.append_assoc, List.append_assoc, cmpB_T t u ha.1 hb.1, cmpB_L ts us ha.2 hb.2]
    unfold both
    by_cases h : cmpT t u = 0
    · simp [h]
    · simp [h]
theorem cmpB_M : (ns : List ByteArray) → (a : List Tr) → (ms : List ByteArray) → (b : List Tr) → ns.length = a.length → ms.length = b.length → GoodKL a → GoodKL b → (r q : List UInt8) → cmpB (kyM ns a ++ r) (kyM ms b ++ q) = both (cmpM ns a ms b) (cmpB r q)
  | [], [], [], [], _, _, _, _, r, q => by
    have e1 : kyM [] [] = [1] := ky_nil
    have e : cmpM [] [] [] [] = 0 := by unfold cmpM; rfl
    rw [e1, e, both_zero]
    show cmpB (1 :: r) (1 :: q) = _
    rw [cmpB_same]
  | [], [], m :: ms, u :: us, _, _, _, _, r, q => by
    have e1 : kyM [] [] = [1] := ky_nil
    have e2 : cmpM [] [] (m :: ms) (u :: us) = -1 := by unfold cmpM; exact cmpI_m1 (by simp)
    rw [e1, e2, kyM]
    show cmpB (1 :: r) (2 :: _) = _
    rw [cmpB_lt (by decide)]
    rfl
  | n :: ns, t :: ts, [], [], _, _, _, _, r, q => by
    have e1 : kyM [] [] = [1] := ky_nil
    have e2 : cmpM (n :: ns) (t :: ts) [] [] = 1 := by unfold cmpM; exact cmpI_p1 (by simp)
    rw [e1, e2, kyM]
    show cmpB (2 :: _) (1 :: q) = _
    rw [cmpB_gt (by decide)]
    rfl
  | n :: ns, t :: ts, m :: ms, u :: us, hl, hl', ha, hb, r, q => by
    unfold GoodKL at ha hb
    rw [kyM, kyM, cmpM]
    show cmpB (2 :: ((keyS n.data.toList ++ (keyT t ++ kyM ns ts)) ++ r)) (2 :: ((keyS m.data.toList ++ (keyT u ++ kyM ms us)) ++ q)) = _
    simp only [List.append_assoc]
    rw [cmpB_same, cmpB_S, cmpB_T t u ha.1 hb.1, cmpB_M ns ts ms us (by simpa using hl) (by simpa using hl') ha.2 hb.2]
    show both (cmpS n m) _ = _
    unfold both
    by_cases h : cmpS n m = 0
    · by_cases h2 : cmpT t u = 0
      · simp [h, h2]
      · simp [h, h2]
    · simp [h]
  | [], _ :: _, _, _, h, _, _, _, _, _ => by simp at h
  | _ :: _, [], _, _, h, _, _, _, _, _ => by simp at h
  | _, _, [], _ :: _, _, h, _, _, _, _ => by simp at h
  | _, _, _ :: _, [], _, h, _, _, _, _ => by simp at h
end
/-- The bytes lie as the values do, and none is a beginning of another's. -/
theorem key_order (a b : Tr) (ha : GoodK a) (hb : GoodK b) : cmpB (keyT a) (keyT b) = cmpT a b := by
  have := cmpB_T a b ha hb [] []
  rw [List.append_nil, List.append_nil] at this
  rw [this]
  unfold both
  by_cases h : cmpT a b = 0
  · rw [h]; rfl
  · rw [if_pos h]
end Go.Proofs.YthgnkhpomhcdkaaGreatDoor
