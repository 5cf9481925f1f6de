import Derived.Test.YtjmneiepcbpdpaaDoorF5
/-! Keys that are read, as plain functions. -/
namespace Go.Proofs.YtjmneiepcbpdpaaDoor
open Go Go.RowKit

/-- What a reader tells: a thing, and the place behind it; or an error, and its place. -/
inductive Rd (α : Type) where
  | ok (x : α) (p : Nat)
  | no (e : Int) (p : Nat)
inductive Sc where
  | fin (s : List UInt8) (n : Nat)
  | short
  | bad (n : Nat)
def Sc.more (b : UInt8) (k : Nat) : Sc → Sc
  | .fin s n => .fin (b :: s) (n + k)
  | .short => .short
  | .bad n => .bad (n + k)
/-- A text up to its end. -/
def scan : List UInt8 → Sc
  | [] => .short
  | b :: r =>
    if b = 0 then
      match r with
      | [] => .short
      | c :: q => if c = 255 then (scan q).more 0 2 else if c = 1 then .fin [] 2 else .bad 1
    else (scan r).more b 1
theorem scan_nil : scan [] = .short := by rw [scan]
theorem scan_b {b : UInt8} (h : b ≠ 0) (r : List UInt8) : scan (b :: r) = (scan r).more b 1 := by rw [scan.eq_def]; simp only; rw [if_neg h]
theorem scan_0 : scan [0] = .short := by rw [scan.eq_def]; rfl
theorem scan_0c (c : UInt8) (q : List UInt8) : scan (0 :: c :: q) = if c = 255 then (scan q).more 0 2 else if c = 1 then .fin [] 2 else .bad 1 := by rw [scan.eq_def]; rfl
def textR (l : List UInt8) (p : Nat) : Rd ByteArray :=
  match scan (l.drop p) with
  | .short => .no 3 l.length
  | .bad n => .no 30 (p + n)
  | .fin s n => if Lib.validD s = true then .ok ⟨s.toArray⟩ (p + n) else .no 13 p
def numOf (l : List UInt8) : Nat := l.foldl (fun h b => h * 256 + b.toNat) 0
def numR (l : List UInt8) (p : Nat) : Rd Int := if l.length - p < 8 then .no 3 l.length else .ok ((numOf ((l.drop p).take 8) : Int) - 9223372036854775808) (p + 8)
def moreR (l : List UInt8) (p : Nat) : Rd Bool :=
  match l[p]? with
  | none => .no 3 l.length
  | some b => if b = 2 then .ok true (p + 1) else if b = 1 then .ok false (p + 1) else .no 30 p
def listR (val : Nat → Rd Tr) (l : List UInt8) : Nat → Nat → List Tr → Rd Tr
  | 0, _, _ => .no 3 l.length
  | f + 1, p, its =>
    match moreR l p with
    | .no e q => .no e q
    | .ok false q => .ok (.node 5 0 noS [] its) q
    | .ok true q =>
      match val q with
      | .no e q' => .no e q'
      | .ok t q' => listR val l f q' (its ++ [t])
def objR (val : Nat → Rd Tr) (l : List UInt8) : Nat → Nat → List ByteArray → List Tr → Rd Tr
  | 0, _, _, _ => .no 3 l.length
  | f + 1, p, ns, its =>
    match moreR l p with
    | .no e q => .no e q
    | .ok false q => .ok (.node 6 0 noS ns its) q
    | .ok true q =>
      match textR l q with
      | .no e q' => .no e q'
      | .ok n q' =>
        if hasName ns n = true then .no 16 q else
        match val q' with
        | .no e r => .no e r
        | .ok t r => objR val l f r (ns ++ [n]) (its ++ [t])
def numV : Rd Int → Rd Tr
  | .no e q => .no e q
  | .ok x q => .ok (.node 3 x noS [] []) q
def textV : Rd ByteArray → Rd Tr
  | .no e q => .no e q
  | .ok s q => .ok (.node 4 0 s [] []) q
def oneR (val : Nat → Rd Tr) (deep : Bool) (l : List UInt8) (p : Nat) : Rd Tr :=
  match l[p]? with
  | none => .no 3 l.length
  | some b =>
    if (b = 48 ∨ b = 64) ∧ deep = true then .no 17 p
    else if b = 5 then .ok (.node 0 0 noS [] []) (p + 1)
    else if b = 16 then numV (numR l (p + 1))
    else if b = 32 then textV (textR l (p + 1))
    else if b = 48 then objR val l (l.length + 1) (p + 1) [] []
    else if b = 64 then listR val l (l.length + 1) (p + 1) []
    else if b = 80 then .ok (.node 1 0 noS [] []) (p + 1)
    else if b = 81 then .ok (.node 2 0 noS [] []) (p + 1)
    else .no 30 p
/-- What value tells; n: how much deeper it may go. -/
def valR (l : List UInt8) : Nat → Nat → Rd Tr
  | 0, p => oneR (fun _ => .no 3 l.length) true l p
  | n + 1, p => oneR (valR l n) false l p

theorem drop_get {l : List UInt8} {p : Nat} {b : UInt8} {r : List UInt8} (h : l.drop p = b :: r) : l[p]? = some b ∧ l.drop (p + 1) = r ∧ p < l.length := by
  have h1 : l[p]? = some b := by
    have := congrArg (fun z => z[0]?) h
    simpa using this
  refine ⟨h1, ?_, (List.getElem?_eq_some_iff.1 h1).1⟩
  have := congrArg (List.drop 1) h
  simpa using this
theorem drop_app {l : List UInt8} {p : Nat} {a r : List UInt8} (h : l.drop p = a ++ r) : l.drop (p + a.length) = r := by
  have := congrArg (List.drop a.length) h
  simpa [Nat.add_comm] using this
theorem get_drop {l : List UInt8} {p : Nat} {b : UInt8} (h : l[p]? = some b) : l.drop p = b :: l.drop (p + 1) := by
  have hlt := (List.getElem?_eq_some_iff.1 h).1
  rw [List.drop_eq_getElem_cons hlt, (List.getElem?_eq_some_iff.1 h).2]

/-! The texts. -/
theorem scan_key : ∀ (s r : List UInt8), scan (keyS s ++ r) = .fin s (keyS s).length
  | [], r => by
    rw [keyS_nil]
    show scan (0 :: 1 :: r) = _
    rw [scan_0c, if_neg (by decide), if_pos rfl]
    rfl
  | b :: s, r => by
    rw [keyS_cons]
    unfold keyB
    by_cases h : b = 0
    · subst h
      rw [if_pos rfl]
      show scan (0 :: 255 :: (keyS s ++ r)) = _
      rw [scan_0c, if_pos rfl, scan_key s r]
      simp [Sc.more]
    · rw [if_neg h]
      show scan (b :: (keyS s ++ r)) = _
      rw [scan_b h, scan_key s r]
      simp [Sc.more]
theorem scan_fin : ∀ (m : Nat) (l : List UInt8), l.length ≤ m → ∀ s n, scan l = .fin s n → l = keyS s ++ l.drop n ∧ n = (keyS s).length
  | m, [], _, s, n, h => by rw [scan_nil] at h; cases h
  | 0, b :: r, hl, s, n, h => by simp at hl
  | m + 1, b :: r, hl, s, n, h => by
    by_cases hb : b = 0
    · subst hb
      match r, hl, h with
      | [], _, h => rw [scan_0] at h; cases h
      | c :: q, hl, h =>
        rw [scan_0c] at h
        by_cases hc : c = 255
        · subst hc
          rw [if_pos rfl] at h
          cases hq : scan q with
          | short => rw [hq] at h; cases h
          | bad _ => rw [hq] at h; cases h
          | fin s' n' =>
            rw [hq] at h
            simp only [Sc.more, Sc.fin.injEq] at h
            obtain ⟨rfl, rfl⟩ := h
            obtain ⟨e1, e2⟩ := scan_fin m q (by simp only [List.length_cons] at hl; omega) s' n' hq
            rw [keyS_cons]
            refine ⟨?_, by simp [keyB, e2]⟩
            show 0 :: 255 :: q = 0 :: 255 :: (keyS s' ++ q.drop n')
            rw [← e1]
        · rw [if_neg hc] at h
          by_cases h1 : c = 1
          · subst h1
            rw [if_pos rfl] at h
            simp only [Sc.fin.injEq] at h
            obtain ⟨rfl, rfl⟩ := h
            exact ⟨rfl, rfl⟩
          · rw [if_neg h1] at h; cases h
    · rw [scan_b hb] at h
      cases hq : scan r with
      | short => rw [hq] at h; cases h
      | bad _ => rw [hq] at h; cases h
      | fin s' n' =>
        rw [hq] at h
        simp only [Sc.more, Sc.fin.injEq] at h
        obtain ⟨rfl, rfl⟩ := h
        obtain ⟨e1, e2⟩ := scan_fin m r (by simp only [List.length_cons] at hl; omega) s' n' hq
        rw [keyS_cons]
        refine ⟨?_, by simp [keyB, hb, e2]⟩
        unfold keyB
        rw [if_neg hb]
        show b :: r = b :: (keyS s' ++ r.drop n')
        rw [← e1]
/-- A text that was read. -/
theorem text_sound {l : List UInt8} {p : Nat} {s : ByteArray} {q : Nat} (h : textR l p = .ok s q) : l.drop p = keyS s.data.toList ++ l.drop q ∧ p < q ∧ q ≤ l.length ∧ Lib.validD s.data.toList = true := by
  unfold textR at h
  cases hq : scan (l.drop p) with
  | short => rw [hq] at h; cases h
  | bad _ => rw [hq] at h; cases h
  | fin s' n' =>
    rw [hq] at h
    simp only at h
    split at h
    · rename_i hv
      simp only [Rd.ok.injEq] at h
      obtain ⟨rfl, rfl⟩ := h
      obtain ⟨e1, e2⟩ := scan_fin _ _ (Nat.le_refl _) _ _ hq
      rw [List.drop_drop] at e1
      have hk : 2 ≤ (keyS s').length := by unfold keyS; simp
      have hl := congrArg List.length e1
      rw [List.length_append, List.length_drop, List.length_drop] at hl
      refine ⟨by simpa using e1, by omega, by omega, by simpa using hv⟩
    · cases h
theorem text_full {l : List UInt8} {p : Nat} {s : ByteArray} {r : List UInt8} (hv : Lib.validD s.data.toList = true) (h : l.drop p = keyS s.data.toList ++ r) : textR l p = .ok s (p + (keyS s.data.toList).length) := by
  unfold textR
  rw [h, scan_key]
  simp only
  rw [if_pos hv]

/-! The numbers. -/
theorem numOf_app (a : List UInt8) (b : UInt8) : numOf (a ++ [b]) = numOf a * 256 + b.toNat := by unfold numOf; rw [List.foldl_append]; rfl
theorem numF : ∀ (l : List UInt8) (h : Nat), l.foldl (fun h b => h * 256 + b.toNat) h = h * 256 ^ l.length + numOf l
  | [], h => by simp [numOf]
  | b :: r, h => by
    rw [List.foldl_cons, numF r]
    have e : numOf (b :: r) = b.toNat * 256 ^ r.length + numOf r := by
      unfold numOf
      rw [List.foldl_cons, numF r]
      simp [numOf]
    rw [e, List.length_cons, Nat.pow_succ, Nat.add_mul, Nat.mul_assoc, Nat.mul_comm 256]
    omega
theorem numOf_cons (b : UInt8) (r : List UInt8) : numOf (b :: r) = b.toNat * 256 ^ r.length + numOf r := by
  unfold numOf
  rw [List.foldl_cons, numF r]
  simp [numOf]
theorem numOf_lt : ∀ (l : List UInt8), numOf l < 256 ^ l.length
  | [] => by simp [numOf]
  | b :: r => by
    rw [numOf_cons, List.length_cons, Nat.pow_succ]
    have h1 := numOf_lt r
    have h2 : b.toNat < 256 := b.toNat_lt
    have h3 : (b.toNat + 1) * 256 ^ r.length ≤ 256 * 256 ^ r.length := Nat.mul_le_mul_right _ h2
    rw [Nat.add_mul, Nat.one_mul] at h3
    rw [Nat.mul_comm (256 ^ r.length)]
    omega
theorem numOf_be : ∀ (n u : Nat), u < 256 ^ n → numOf (be n u) = u
  | 0, u, h => by simp [be, numOf] at h ⊢; omega
  | n + 1, u, h => by
    have hp : 0 < 256 ^ n := Nat.pow_pos (by decide)
    have hu1 : u / 256 ^ n < 256 := by rw [Nat.div_lt_iff_lt_mul hp, ← Nat.pow_succ']; exact h
    have t1 : (UInt8.ofNat (u / 256 ^ n)).toNat = u / 256 ^ n := by rw [UInt8.toNat_ofNat']; exact Nat.mod_eq_of_lt (by simpa using hu1)
    rw [be, numOf_cons, be_len, t1, numOf_be n _ (Nat.mod_lt _ hp), Nat.mul_comm]
    exact Nat.div_add_mod u (256 ^ n)
theorem be_numOf : ∀ (l : List UInt8), be l.length (numOf l) = l
  | [] => rfl
  | b :: r => by
    have hp : 0 < 256 ^ r.length := Nat.pow_pos (by decide)
    have h1 := numOf_lt r
    rw [numOf_cons, List.length_cons, be]
    have e1 : (b.toNat * 256 ^ r.length + numOf r) / 256 ^ r.length = b.toNat := by
      rw [Nat.mul_comm, Nat.mul_add_div hp, Nat.div_eq_of_lt h1, Nat.add_zero]
    have e2 : (b.toNat * 256 ^ r.length + numOf r) % 256 ^ r.length = numOf r := by
      rw [Nat.mul_comm, Nat.mul_add_mod, Nat.mod_eq_of_lt h1]
    rw [e1, e2, be_numOf r]
    simp
theorem num_sound {l : List UInt8} {p : Nat} {x : Int} {q : Nat} (h : numR l p = .ok x q) : l.drop p = keyN x ++ l.drop q ∧ p < q ∧ q ≤ l.length ∧ (-9223372036854775808 ≤ x ∧ x ≤ 9223372036854775807) := by
  unfold numR at h
  split at h
  · cases h
  · rename_i h8
    simp only [Rd.ok.injEq] at h
    obtain ⟨rfl, rfl⟩ := h
    have hl : ((l.drop p).take 8).length = 8 := by rw [List.length_take, List.length_drop]; omega
    have h1 := numOf_lt ((l.drop p).take 8)
    rw [hl] at h1
    have h2 : (256 : Nat) ^ 8 = 18446744073709551616 := by decide
    rw [h2] at h1
    have e := be_numOf ((l.drop p).take 8)
    rw [hl] at e
    refine ⟨?_, by omega, by omega, by omega⟩
    unfold keyN
    rw [show ((numOf ((l.drop p).take 8) : Int) - 9223372036854775808 + 9223372036854775808).toNat = numOf ((l.drop p).take 8) by omega, e, ← List.drop_drop]
    exact (List.take_append_drop 8 (l.drop p)).symm
theorem num_full {l : List UInt8} {p : Nat} {x : Int} {r : List UInt8} (hx : -9223372036854775808 ≤ x ∧ x ≤ 9223372036854775807) (h : l.drop p = keyN x ++ r) : numR l p = .ok x (p + (keyN x).length) := by
  have hk : (keyN x).length = 8 := by unfold keyN; exact be_len _ _
  have hl := congrArg List.length h
  rw [List.length_drop, List.length_append, hk] at hl
  unfold numR
  rw [if_neg (by omega), h, hk]
  have e : (keyN x ++ r).take 8 = keyN x := by rw [← hk, List.take_left]
  rw [e]
  have h2 : (256 : Nat) ^ 8 = 18446744073709551616 := by decide
  have e2 : numOf (keyN x) = (x + 9223372036854775808).toNat := by unfold keyN; exact numOf_be _ _ (by rw [h2]; omega)
  rw [e2]
  congr 1
  omega
end Go.Proofs.YtjmneiepcbpdpaaDoor
