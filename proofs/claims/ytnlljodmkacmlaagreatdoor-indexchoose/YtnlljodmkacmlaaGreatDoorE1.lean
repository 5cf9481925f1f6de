import Derived.Test.YtnlljodmkacmlaaGreatDoorU1
/-! The bytes of values lie as the values do. -/
namespace Go.Proofs.YtnlljodmkacmlaaGreatDoor.Chk
open Go Go.RowKit

def cmpB (a b : List UInt8) : Int := Lib.compareBytes a b
theorem cmpB_cons (x y : UInt8) (l m : List UInt8) : cmpB (x :: l) (y :: m) = both (cmpI (x.toNat : Int) (y.toNat : Int)) (cmpB l m) := by
  unfold cmpB cmpI both
  rw [Lib.compareBytes]
  by_cases h1 : x.toNat < y.toNat
  · have h1' : (x.toNat : Int) < (y.toNat : Int) := by omega
    have hx : x < y := by rw [UInt8.lt_iff_toNat_lt]; exact h1
    simp [h1', hx]
  · by_cases h2 : y.toNat < x.toNat
    · have h2' : (y.toNat : Int) < (x.toNat : Int) := by omega
      have h1' : ¬ (x.toNat : Int) < (y.toNat : Int) := by omega
      have hx : ¬ x < y := by rw [UInt8.lt_iff_toNat_lt]; exact h1
      have hy : y < x := by rw [UInt8.lt_iff_toNat_lt]; exact h2
      simp [h1', h2', hx, hy]
    · have h2' : ¬ (y.toNat : Int) < (x.toNat : Int) := by omega
      have h1' : ¬ (x.toNat : Int) < (y.toNat : Int) := by omega
      have hx : ¬ x < y := by rw [UInt8.lt_iff_toNat_lt]; exact h1
      have hy : ¬ y < x := by rw [UInt8.lt_iff_toNat_lt]; exact h2
      simp [h1', h2', hx, hy]
theorem cmpB_same (x : UInt8) (l m : List UInt8) : cmpB (x :: l) (x :: m) = cmpB l m := by
  rw [cmpB_cons]
  unfold cmpI both
  simp
theorem cmpB_lt {x y : UInt8} (h : x.toNat < y.toNat) (l m : List UInt8) : cmpB (x :: l) (y :: m) = -1 := by
  rw [cmpB_cons]
  unfold cmpI both
  have : (x.toNat : Int) < (y.toNat : Int) := by omega
  simp [this]
theorem cmpB_gt {x y : UInt8} (h : y.toNat < x.toNat) (l m : List UInt8) : cmpB (x :: l) (y :: m) = 1 := by
  rw [cmpB_cons]
  unfold cmpI both
  have h1 : (y.toNat : Int) < (x.toNat : Int) := by omega
  have h2 : ¬ (x.toNat : Int) < (y.toNat : Int) := by omega
  simp [h1, h2]
def keyB (b : UInt8) : List UInt8 := if b = 0 then [0, 255] else [b]
def keyS (s : List UInt8) : List UInt8 := s.flatMap keyB ++ [0, 1]
theorem keyS_nil : keyS [] = [0, 1] := rfl
theorem keyS_cons (b : UInt8) (s : List UInt8) : keyS (b :: s) = keyB b ++ keyS s := by unfold keyS; simp [List.append_assoc]
theorem pos_of {b : UInt8} (h : b ≠ 0) : 0 < b.toNat := by
  rcases Nat.eq_zero_or_pos b.toNat with e | e
  · exact absurd (UInt8.toNat_inj.1 (by simpa using e)) h
  · exact e
theorem cmpI_m1 {a b : Int} (h : a < b) : cmpI a b = -1 := by unfold cmpI; rw [if_pos h]
theorem cmpI_p1 {a b : Int} (h : b < a) : cmpI a b = 1 := by unfold cmpI; rw [if_neg (by omega), if_pos h]
theorem pos_of' {b : UInt8} (h : b ≠ 0) : (0 : UInt8).toNat < b.toNat := pos_of h
theorem cmpB_S : ∀ (a b : List UInt8) (r q : List UInt8), cmpB (keyS a ++ r) (keyS b ++ q) = both (cmpB a b) (cmpB r q)
  | [], [], r, q => by
    rw [keyS_nil]
    show cmpB (0 :: 1 :: r) (0 :: 1 :: q) = _
    rw [cmpB_same, cmpB_same]
    exact (both_zero _).symm
  | [], y :: bs, r, q => by
    rw [keyS_nil, keyS_cons]
    have e : both (cmpB [] (y :: bs)) (cmpB r q) = -1 := rfl
    rw [e]
    unfold keyB
    by_cases h : y = 0
    · rw [if_pos h]
      show cmpB (0 :: 1 :: r) (0 :: 255 :: _) = -1
      rw [cmpB_same, cmpB_lt (by decide)]
    · rw [if_neg h]
      show cmpB (0 :: 1 :: r) (y :: _) = -1
      exact cmpB_lt (pos_of' h) _ _
  | x :: al, [], r, q => by
    rw [keyS_nil, keyS_cons]
    have e : both (cmpB (x :: al) []) (cmpB r q) = 1 := rfl
    rw [e]
    unfold keyB
    by_cases h : x = 0
    · rw [if_pos h]
      show cmpB (0 :: 255 :: _) (0 :: 1 :: q) = 1
      rw [cmpB_same, cmpB_gt (by decide)]
    · rw [if_neg h]
      show cmpB (x :: _) (0 :: 1 :: q) = 1
      exact cmpB_gt (pos_of' h) _ _
  | x :: al, y :: bs, r, q => by
    have ih := cmpB_S al bs r q
    rw [keyS_cons, keyS_cons, cmpB_cons, both_assoc, ← ih]
    unfold keyB
    by_cases hx : x = 0
    · by_cases hy : y = 0
      · subst hx hy
        rw [if_pos rfl]
        show cmpB (0 :: 255 :: (keyS al ++ r)) (0 :: 255 :: (keyS bs ++ q)) = _
        rw [cmpB_same, cmpB_same]
        unfold cmpI both
        simp
      · subst hx
        rw [if_pos rfl, if_neg hy]
        show cmpB (0 :: 255 :: (keyS al ++ r)) (y :: (keyS bs ++ q)) = _
        rw [cmpB_lt (pos_of' hy)]
        have h1 : ((0 : UInt8).toNat : Int) < (y.toNat : Int) := by have := pos_of' hy; omega
        rw [cmpI_m1 h1]
        rfl
    · by_cases hy : y = 0
      · subst hy
        rw [if_neg hx, if_pos rfl]
        show cmpB (x :: (keyS al ++ r)) (0 :: 255 :: (keyS bs ++ q)) = _
        rw [cmpB_gt (pos_of' hx)]
        have h1 : ((0 : UInt8).toNat : Int) < (x.toNat : Int) := by have := pos_of' hx; omega
        rw [cmpI_p1 h1]
        rfl
      · rw [if_neg hx, if_neg hy]
        show cmpB (x :: (keyS al ++ r)) (y :: (keyS bs ++ q)) = _
        rw [cmpB_cons]
/-- The n bytes of a number, the greatest first. -/
def be : Nat → Nat → List UInt8
  | 0, _ => []
  | n + 1, u => UInt8.ofNat (u / 256 ^ n) :: be n (u % 256 ^ n)
theorem be_len : ∀ n u, (be n u).length = n
  | 0, _ => rfl
  | n + 1, u => by rw [be, List.length_cons, be_len n]
theorem cmpB_be : ∀ (n u v : Nat), u < 256 ^ n → v < 256 ^ n → ∀ r q, cmpB (be n u ++ r) (be n v ++ q) = both (cmpI (u : Int) (v : Int)) (cmpB r q)
  | 0, u, v, hu, hv, r, q => by
    have e1 : u = 0 := by simpa using hu
    have e2 : v = 0 := by simpa using hv
    subst e1 e2
    show cmpB r q = _
    unfold cmpI both
    simp
  | n + 1, u, v, hu, hv, r, q => by
    have hp : 0 < 256 ^ n := Nat.pow_pos (by decide)
    have hu1 : u / 256 ^ n < 256 := by rw [Nat.div_lt_iff_lt_mul hp, ← Nat.pow_succ']; exact hu
    have hv1 : v / 256 ^ n < 256 := by rw [Nat.div_lt_iff_lt_mul hp, ← Nat.pow_succ']; exact hv
    have ih := cmpB_be n (u % 256 ^ n) (v % 256 ^ n) (Nat.mod_lt _ hp) (Nat.mod_lt _ hp) r q
    rw [be, be]
    show cmpB (UInt8.ofNat (u / 256 ^ n) :: (be n (u % 256 ^ n) ++ r)) (UInt8.ofNat (v / 256 ^ n) :: (be n (v % 256 ^ n) ++ q)) = _
    rw [cmpB_cons, ih, ← both_assoc]
    congr 1
    have t1 : (UInt8.ofNat (u / 256 ^ n)).toNat = u / 256 ^ n := by rw [UInt8.toNat_ofNat']; exact Nat.mod_eq_of_lt (by simpa using hu1)
    have t2 : (UInt8.ofNat (v / 256 ^ n)).toNat = v / 256 ^ n := by rw [UInt8.toNat_ofNat']; exact Nat.mod_eq_of_lt (by simpa using hv1)
    rw [t1, t2]
    have du := Nat.div_add_mod u (256 ^ n)
    have dv := Nat.div_add_mod v (256 ^ n)
    have mu := Nat.mod_lt u hp
    have mv := Nat.mod_lt v hp
    generalize 256 ^ n = P at *
    generalize u / P = a at *
    generalize v / P = b at *
    generalize u % P = c at *
    generalize v % P = d at *
    subst du dv
    unfold cmpI both
    rcases Nat.lt_trichotomy a b with h | h | h
    · have h1 : (a : Int) < (b : Int) := by omega
      have h2 : P * a + P ≤ P * b := by rw [← Nat.mul_succ]; exact Nat.mul_le_mul_left _ h
      have h3 : ((P * a + c : Nat) : Int) < ((P * b + d : Nat) : Int) := by omega
      simp only [if_pos h1, if_pos h3]
      simp
    · subst h
      have h1 : ¬ (a : Int) < (a : Int) := by omega
      simp only [if_neg h1]
      simp only [ne_eq, not_true_eq_false, if_false]
      by_cases h4 : (c : Int) < (d : Int)
      · rw [if_pos h4, if_pos (by omega)]
      · by_cases h5 : (d : Int) < (c : Int)
        · rw [if_neg h4, if_pos h5, if_neg (by omega), if_pos (by omega)]
        · rw [if_neg h4, if_neg h5, if_neg (by omega), if_neg (by omega)]
    · have h1 : (b : Int) < (a : Int) := by omega
      have h1' : ¬ (a : Int) < (b : Int) := by omega
      have h2 : P * b + P ≤ P * a := by rw [← Nat.mul_succ]; exact Nat.mul_le_mul_left _ h
      have h3 : ((P * b + d : Nat) : Int) < ((P * a + c : Nat) : Int) := by omega
      have h3' : ¬ ((P * a + c : Nat) : Int) < ((P * b + d : Nat) : Int) := by omega
      simp only [if_neg h1', if_pos h1, if_neg h3', if_pos h3]
      simp
def keyN (x : Int) : List UInt8 := be 8 (x + 9223372036854775808).toNat
theorem cmpB_N (x y : Int) (hx : -9223372036854775808 ≤ x ∧ x ≤ 9223372036854775807) (hy : -9223372036854775808 ≤ y ∧ y ≤ 9223372036854775807) (r q : List UInt8) : cmpB (keyN x ++ r) (keyN y ++ q) = both (cmpI x y) (cmpB r q) := by
  unfold keyN
  rw [cmpB_be 8 _ _ (by omega) (by omega)]
  congr 1
  unfold cmpI
  have e1 : ((x + 9223372036854775808).toNat : Int) = x + 9223372036854775808 := by omega
  have e2 : ((y + 9223372036854775808).toNat : Int) = y + 9223372036854775808 := by omega
  rw [e1, e2]
  by_cases h1 : x < y
  · rw [if_pos h1, if_pos (by omega)]
  · by_cases h2 : y < x
    · rw [if_neg h1, if_pos h2, if_neg (by omega), if_pos (by omega)]
    · rw [if_neg h1, if_neg h2, if_neg (by omega), if_neg (by omega)]
/-- The first byte of a kind. -/
def firstB (k : Int) : UInt8 := if k = 3 then 16 else if k = 4 then 32 else if k = 6 then 48 else if k = 5 then 64 else if k = 1 then 80 else if k = 2 then 81 else 5
mutual
/-- The bytes of a value. -/
def keyT : Tr → List UInt8
  | .node k x s ns its => firstB k :: (if k = 3 then keyN x else if k = 4 then keyS s.data.toList else if k = 6 then kyM ns its else if k = 5 then kyL its else [])
def kyL : List Tr → List UInt8
  | [] => [1]
  | t :: ts => 2 :: (keyT t ++ kyL ts)
def kyM : List ByteArray → List Tr → List UInt8
  | n :: ns, t :: ts => 2 :: (keyS n.data.toList ++ (keyT t ++ kyM ns ts))
  | _, _ => [1]
end
mutual
/-- A value as Check lets it through. -/
def GoodK : Tr → Prop
  | .node k x _ ns its => (0 ≤ k ∧ k ≤ 6) ∧ (-9223372036854775808 ≤ x ∧ x ≤ 9223372036854775807) ∧ (k = 6 → ns.length = its.length) ∧ GoodKL its
def GoodKL : List Tr → Prop
  | [] => True
  | t :: ts => GoodK t ∧ GoodKL ts
end
theorem firstB_rank {k k' : Int} (h : 0 ≤ k ∧ k ≤ 6) (h' : 0 ≤ k' ∧ k' ≤ 6) : cmpI ((firstB k).toNat : Int) ((firstB k').toNat : Int) = cmpI (rankZ k) (rankZ k') := by
  have : k = 0 ∨ k = 1 ∨ k = 2 ∨ k = 3 ∨ k = 4 ∨ k = 5 ∨ k = 6 := by omega
  have : k' = 0 ∨ k' = 1 ∨ k' = 2 ∨ k' = 3 ∨ k' = 4 ∨ k' = 5 ∨ k' = 6 := by omega
  rcases ‹k = 0 ∨ _› with rfl | rfl | rfl | rfl | rfl | rfl | rfl <;> rcases ‹k' = 0 ∨ _› with rfl | rfl | rfl | rfl | rfl | rfl | rfl <;> rfl
theorem rank_eq {k k' : Int} (h : 0 ≤ k ∧ k ≤ 6) (h' : 0 ≤ k' ∧ k' ≤ 6) (e : cmpI (rankZ k) (rankZ k') = 0) : k = k' := by
  have : k = 0 ∨ k = 1 ∨ k = 2 ∨ k = 3 ∨ k = 4 ∨ k = 5 ∨ k = 6 := by omega
  have : k' = 0 ∨ k' = 1 ∨ k' = 2 ∨ k' = 3 ∨ k' = 4 ∨ k' = 5 ∨ k' = 6 := by omega
  rcases ‹k = 0 ∨ _› with rfl | rfl | rfl | rfl | rfl | rfl | rfl <;> rcases ‹k' = 0 ∨ _› with rfl | rfl | rfl | rfl | rfl | rfl | rfl <;> first | rfl | (exact absurd e (by decide))
theorem ky_nil : kyM [] [] = [1] := by unfold kyM; rfl
mutual
theorem cmpB_T : (a b : Tr) → GoodK a → GoodK b → (r q : List UInt8) → cmpB (keyT a ++ r) (keyT b ++ q) = both (cmpT a b) (cmpB r q)
  | .node k x s ns its, .node k' x' s' ns' its', ha, hb, r, q => by
    unfold GoodK at ha hb
    obtain ⟨hk, hx, hn, hl⟩ := ha
    obtain ⟨hk', hx', hn', hl'⟩ := hb
    rw [keyT, keyT, cmpT]
    show cmpB (firstB k :: (_ ++ r)) (firstB k' :: (_ ++ q)) = _
    rw [cmpB_cons, firstB_rank hk hk']
    by_cases e : cmpI (rankZ k) (rankZ k') = 0
    · obtain rfl := rank_eq hk hk' e
      rw [e, both_zero, if_neg (show ¬ ((0 : Int) ≠ 0) by simp)]
      by_cases h3 : k = 3
      · simp only [if_pos h3]
        exact cmpB_N x x' hx hx' r q
      · by_cases h4 : k = 4
        · simp only [if_neg h3, if_pos h4]
          exact cmpB_S _ _ r q
        · by_cases h6 : k = 6
          · simp only [if_neg h3, if_neg h4, if_pos h6]
            exact cmpB_M ns its ns' its' (hn h6) (hn' h6) hl hl' r q
          · by_cases h5 : k = 5
            · simp only [if_neg h3, if_neg h4, if_neg h6, if_pos h5]
              exact cmpB_L its its' hl hl' r q
            · simp only [if_neg h3, if_neg h4, if_neg h6, if_neg h5]
              rw [both_zero]
              rfl
    · rw [if_pos e]
      unfold both
      rw [if_pos e, if_pos e]
theorem cmpB_L : (a b : List Tr) → GoodKL a → GoodKL b → (r q : List UInt8) → cmpB (kyL a ++ r) (kyL b ++ q) = both (cmpL a b) (cmpB r q)
  | [], [], _, _, r, q => by
    rw [kyL, cmpL, both_zero]
    show cmpB (1 :: r) (1 :: q) = _
    rw [cmpB_same]
  | [], u :: us, _, _, r, q => by
    rw [kyL, kyL, cmpL]
    show cmpB (1 :: r) (2 :: _) = _
    rw [cmpB_lt (by decide)]
    rfl
  | t :: ts, [], _, _, r, q => by
    rw [kyL, kyL, cmpL]
    show cmpB (2 :: _) (1 :: q) = _
    rw [cmpB_gt (by decide)]
    rfl
  | t :: ts, u :: us, ha, hb, r, q => by
    unfold GoodKL at ha hb
    rw [kyL, kyL, cmpL]
    show cmpB (2 :: ((keyT t ++ kyL ts) ++ r)) (2 :: ((keyT u ++ kyL us) ++ q)) = _
    rw [cmpB_same, List.append_assoc, List.append_assoc, cmpB_T t u ha.1 hb.1, cmpB_L ts us ha.2 hb.2]
    unfold both
    by_cases h : cmpT t u = 0
    · simp [h]
    · simp [h]
theorem cmpB_M : (ns : List ByteArray) → (a : List Tr) → (ms : List ByteArray) → (b : List Tr) → ns.length = a.length → ms.length = b.length → GoodKL a → GoodKL b → (r q : List UInt8) → cmpB (kyM ns a ++ r) (kyM ms b ++ q) = both (cmpM ns a ms b) (cmpB r q)
  | [], [], [], [], _, _, _, _, r, q => by
    have e1 : kyM [] [] = [1] := ky_nil
    have e : cmpM [] [] [] [] = 0 := by unfold cmpM; rfl
    rw [e1, e, both_zero]
    show cmpB (1 :: r) (1 :: q) = _
    rw [cmpB_same]
  | [], [], m :: ms, u :: us, _, _, _, _, r, q => by
    have e1 : kyM [] [] = [1] := ky_nil
    have e2 : cmpM [] [] (m :: ms) (u :: us) = -1 := by unfold cmpM; exact cmpI_m1 (by simp)
    rw [e1, e2, kyM]
    show cmpB (1 :: r) (2 :: _) = _
    rw [cmpB_lt (by decide)]
    rfl
  | n :: ns, t :: ts, [], [], _, _, _, _, r, q => by
    have e1 : kyM [] [] = [1] := ky_nil
    have e2 : cmpM (n :: ns) (t :: ts) [] [] = 1 := by unfold cmpM; exact cmpI_p1 (by simp)
    rw [e1, e2, kyM]
    show cmpB (2 :: _) (1 :: q) = _
    rw [cmpB_gt (by decide)]
    rfl
  | n :: ns, t :: ts, m :: ms, u :: us, hl, hl', ha, hb, r, q => by
    unfold GoodKL at ha hb
    rw [kyM, kyM, cmpM]
    show cmpB (2 :: ((keyS n.data.toList ++ (keyT t ++ kyM ns ts)) ++ r)) (2 :: ((keyS m.data.toList ++ (keyT u ++ kyM ms us)) ++ q)) = _
    simp only [List.append_assoc]
    rw [cmpB_same, cmpB_S, cmpB_T t u ha.1 hb.1, cmpB_M ns ts ms us (by simpa using hl) (by simpa using hl') ha.2 hb.2]
    show both (cmpS n m) _ = _
    unfold both
    by_cases h : cmpS n m = 0
    · by_cases h2 : cmpT t u = 0
      · simp [h, h2]
      · simp [h, h2]
    · simp [h]
  | [], _ :: _, _, _, h, _, _, _, _, _ => by simp at h
  | _ :: _, [], _, _, h, _, _, _, _, _ => by simp at h
  | _, _, [], _ :: _, _, h, _, _, _, _ => by simp at h
  | _, _, _ :: _, [], _, h, _, _, _, _ => by simp at h
end
/-- The bytes lie as the values do, and none is a beginning of another's. -/
theorem key_order (a b : Tr) (ha : GoodK a) (hb : GoodK b) : cmpB (keyT a) (keyT b) = cmpT a b := by
  have := cmpB_T a b ha hb [] []
  rw [List.append_nil, List.append_nil] at this
  rw [this]
  unfold both
  by_cases h : cmpT a b = 0
  · rw [h]; rfl
  · rw [if_pos h]
end Go.Proofs.YtnlljodmkacmlaaGreatDoor.Chk
