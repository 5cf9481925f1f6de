import Derived.Laws.BitsAllLaws
import Derived.Laws.Bits64
/-! ident: plain numbers: sums, mixes, digits. -/
namespace Go.Proofs.Yteojoaceecncnaa
open Go
abbrev M64 : Nat := 18446744073709551616
/-- The number exclusive-or itself cut by so many bits. -/
def cutN (k x : Nat) : Nat := x ^^^ x / 2 ^ k
/-- What undoes it, where three times the bits are 64 or more. -/
def uncutN (k y : Nat) : Nat := y ^^^ y / 2 ^ k ^^^ y / 2 ^ (k + k)
theorem xor_div (x y k : Nat) : (x ^^^ y) / 2 ^ k = x / 2 ^ k ^^^ y / 2 ^ k := by
  rw [← Nat.shiftRight_eq_div_pow, ← Nat.shiftRight_eq_div_pow, ← Nat.shiftRight_eq_div_pow, Nat.shiftRight_xor_distrib]
theorem div_div_pow (x a b : Nat) : x / 2 ^ a / 2 ^ b = x / 2 ^ (a + b) := by rw [Nat.div_div_eq_div_mul, Nat.pow_add]
theorem far_zero {x k : Nat} (hx : x < M64) (hk : 64 ≤ k) : x / 2 ^ k = 0 := by
  refine Nat.div_eq_of_lt (Nat.lt_of_lt_of_le hx ?_)
  exact Nat.pow_le_pow_right (n := 2) (by decide) hk
theorem xor4 (a b c : Nat) : a ^^^ b ^^^ (b ^^^ c) ^^^ c = a := by
  rw [Nat.xor_assoc, Nat.xor_assoc, Nat.xor_assoc, Nat.xor_self, Nat.xor_zero, Nat.xor_self, Nat.xor_zero]
theorem uncut_cut {k x : Nat} (hx : x < M64) (hk : 64 ≤ k + k + k) : uncutN k (cutN k x) = x := by
  unfold uncutN cutN
  rw [xor_div, xor_div, div_div_pow, div_div_pow, far_zero hx (k := k + (k + k)) (by omega), Nat.xor_zero]
  exact xor4 _ _ _
theorem xor5 (a b c : Nat) : a ^^^ b ^^^ c ^^^ (b ^^^ c) = a := by
  rw [Nat.xor_assoc, Nat.xor_assoc, ← Nat.xor_assoc b c, Nat.xor_self, Nat.xor_zero]
theorem cut_uncut {k y : Nat} (hy : y < M64) (hk : 64 ≤ k + k + k) : cutN k (uncutN k y) = y := by
  unfold uncutN cutN
  rw [xor_div, xor_div, div_div_pow, div_div_pow, far_zero hy (k := k + k + k) (by omega), Nat.xor_zero]
  exact xor5 _ _ _
theorem xor_lt {a b : Nat} (ha : a < M64) (hb : b < M64) : a ^^^ b < M64 := Nat.xor_lt_two_pow (n := 64) ha hb
theorem div_lt {a k : Nat} (ha : a < M64) : a / k < M64 := Nat.lt_of_le_of_lt (Nat.div_le_self _ _) ha
theorem cut_lt {k x : Nat} (hx : x < M64) : cutN k x < M64 := xor_lt hx (div_lt hx)
theorem uncut_lt {k x : Nat} (hx : x < M64) : uncutN k x < M64 := xor_lt (xor_lt hx (div_lt hx)) (div_lt hx)
theorem times_back {x t b : Nat} (hx : x < M64) (h : t * b % M64 = 1) : x * t % M64 * b % M64 = x := by
  rw [Nat.mod_mul_mod, Nat.mul_assoc, Nat.mul_mod, h, Nat.mul_one, Nat.mod_mod, Nat.mod_eq_of_lt hx]
def mixP : Nat := 11400714819323198485
def mixA : Nat := 13787848793156543929
def mixB : Nat := 10723151780598845931
def mixA' : Nat := 10871156337175269513
def mixB' : Nat := 3573116690164977347
def mixN (n : Nat) : Nat := cutN 31 (cutN 27 (cutN 30 ((n + mixP) % M64) * mixA % M64) * mixB % M64)
def unmixN (n : Nat) : Nat := (uncutN 30 (uncutN 27 (uncutN 31 n * mixB' % M64) * mixA' % M64) + (M64 - mixP)) % M64
theorem mod_lt64 (x : Nat) : x % M64 < M64 := Nat.mod_lt _ (by decide)
theorem mix_lt (n : Nat) : mixN n < M64 := cut_lt (mod_lt64 _)
theorem unmix_lt (n : Nat) : unmixN n < M64 := mod_lt64 _
theorem unmix_mix {n : Nat} (hn : n < M64) : unmixN (mixN n) = n := by
  unfold unmixN mixN
  rw [uncut_cut (mod_lt64 _) (by decide), times_back (cut_lt (mod_lt64 _)) (by decide), uncut_cut (mod_lt64 _) (by decide), times_back (cut_lt (mod_lt64 _)) (by decide), uncut_cut (mod_lt64 _) (by decide)]
  unfold mixP M64 at *
  omega
theorem mix_unmix {n : Nat} (hn : n < M64) : mixN (unmixN n) = n := by
  unfold unmixN mixN
  have h : ∀ x, x < M64 → ((x + (M64 - mixP)) % M64 + mixP) % M64 = x := by
    intro x hx
    unfold mixP M64 at *
    omega
  rw [h _ (uncut_lt (mod_lt64 _)), cut_uncut (mod_lt64 _) (by decide), times_back (uncut_lt (mod_lt64 _)) (by decide), cut_uncut (mod_lt64 _) (by decide), times_back (uncut_lt hn) (by decide), cut_uncut hn (by decide)]
/-- The document's way to undo a cut: so many turns. -/
def unshiftN (k y : Nat) : Nat → Nat
  | 0 => y
  | t + 1 => y ^^^ unshiftN k y t / 2 ^ k
theorem unshift_two (k y : Nat) : unshiftN k y 2 = uncutN k y := by
  simp only [unshiftN, uncutN]
  rw [xor_div, div_div_pow, Nat.xor_assoc]
theorem xor_turn {u d y : Nat} (h : u ^^^ d = y) : y ^^^ d = u := by
  rw [← h, Nat.xor_assoc, Nat.xor_self, Nat.xor_zero]
theorem unshift_more {k y : Nat} (hy : y < M64) (hk : 64 ≤ k + k + k) : ∀ t, unshiftN k y (t + 2) = uncutN k y
  | 0 => unshift_two k y
  | t + 1 => by
    rw [unshiftN, unshift_more hy hk t]
    have h := cut_uncut hy hk
    unfold cutN at h
    exact xor_turn h
theorem unshift_lt {k y : Nat} (hy : y < M64) : ∀ t, unshiftN k y t < M64
  | 0 => hy
  | t + 1 => xor_lt hy (div_lt (unshift_lt hy t))
/-- The document's inverse: so many turns. -/
def invN (n : Nat) : Nat → Nat
  | 0 => 1
  | t + 1 => invN n t * ((M64 + 2 - n * invN n t % M64) % M64) % M64
theorem inv_lt (n : Nat) : ∀ t, invN n t < M64
  | 0 => show 1 < M64 by decide
  | t + 1 => mod_lt64 _
theorem invA : invN mixA 64 = mixA' := by decide +kernel
theorem invB : invN mixB 64 = mixB' := by decide +kernel
/-- A sum, byte by byte. -/
def hashB (h : Nat) (b : UInt8) : Nat := (h ^^^ b.toNat) * 1099511628211 % M64
def hashN (h : Nat) (l : List UInt8) : Nat := l.foldl hashB h
theorem hash_append (h : Nat) (a b : List UInt8) : hashN h (a ++ b) = hashN (hashN h a) b := List.foldl_append ..
theorem hashB_lt (h : Nat) (b : UInt8) : hashB h b < M64 := mod_lt64 _
theorem hash_lt {h : Nat} (hh : h < M64) : ∀ l, hashN h l < M64
  | [] => hh
  | b :: l => by rw [hashN, List.foldl_cons]; exact hash_lt (hashB_lt h b) l
def digitN (h level : Nat) : Nat := h / 16 ^ level % 16
theorem digit_up (h i : Nat) : 16 * (h / 16 ^ (i + 1)) + digitN h i = h / 16 ^ i := by
  unfold digitN
  rw [Nat.pow_succ, ← Nat.div_div_eq_div_mul]
  omega
theorem digit_all {h : Nat} (hh : h < M64) : h / 16 ^ 16 = 0 := Nat.div_eq_of_lt hh
end Go.Proofs.Yteojoaceecncnaa
