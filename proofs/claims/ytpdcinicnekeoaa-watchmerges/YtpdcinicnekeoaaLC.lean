import Derived.Test.YtpdcinicnekeoaaLB
/-! watch: acts in memory; few. -/
namespace Go.Proofs.Ytpdcinicnekeoaa
open Go Go.RowKit Go.Watch
structure Ac where
  st : Int
  ch : List Chg
  ca : Option Addr
  cc : Nat
  ask : Bool
  af : Int
  lim : Int
  inn : ByteArray
/-- An act in memory. -/
structure AcCell (w : World) (b o : Nat) (c : Ac) : Prop where
  st : w.cell? ⟨b, o, none⟩ = some (.int .i64 c.st)
  ch : w.cell? ⟨b, o + 1, none⟩ = some (.slice c.ca c.ch.length c.cc)
  ask : w.cell? ⟨b, o + 2, none⟩ = some (.bool c.ask)
  af : w.cell? ⟨b, o + 3, none⟩ = some (.int .i64 c.af)
  lim : w.cell? ⟨b, o + 4, none⟩ = some (.int .i64 c.lim)
  inn : w.cell? ⟨b, o + 5, none⟩ = some (.string c.inn)
theorem AcCell.keep {w w' : World} {b o : Nat} {c : Ac} (h : AcCell w b o c) (hk : w'.heap[b]? = w.heap[b]?) : AcCell w' b o c := by
  have k : ∀ i : Nat, w'.cell? ⟨b, i, none⟩ = w.cell? ⟨b, i, none⟩ := fun i => World.cell?_of_block (w := w) (a := ⟨b, i, none⟩) hk
  exact ⟨(k _).trans h.st, (k _).trans h.ch, (k _).trans h.ask, (k _).trans h.af, (k _).trans h.lim, (k _).trans h.inn⟩
theorem AcCell.lt {w : World} {b o : Nat} {c : Ac} (h : AcCell w b o c) : b < w.heap.size := lt_of_cell h.st
def ActsAt (w : World) (a : Option Addr) (l : List Ac) : Prop := ∀ (j : Nat) c, l[j]? = some c → ∃ b o, a = some ⟨b, o, none⟩ ∧ AcCell w b (o + j * 6) c ∧ ChgsAt (fun _ => True) w c.ca c.ch ∧ c.ch.length ≤ c.cc ∧ c.cc ≤ 9223372036854775807 ∧ c.ch.length ≤ 4398046511104 ∧ c.st ≤ 9223372036854775807
theorem ActsAt.below {w w' : World} {a : Option Addr} {l : List Ac} (h : ActsAt w a l) (hb : Below w.heap.size w w') : ActsAt w' a l := fun j c hj => by
  obtain ⟨b, o, h1, h2, h3, h4⟩ := h j c hj
  exact ⟨b, o, h1, h2.keep (hb.block _ h2.lt), h3.below hb, h4⟩
def totA (l : List Ac) : Nat := (l.map fun c => c.ch.length).sum
theorem totA_take {l : List Ac} {i : Nat} {c : Ac} (h : l[i]? = some c) : totA (l.take (i + 1)) = totA (l.take i) + c.ch.length := by
  unfold totA
  rw [List.take_add_one, h]
  simp
theorem totA_mem {l : List Ac} {i : Nat} {c : Ac} (h : l[i]? = some c) : totA (l.take i) + c.ch.length ≤ totA l := by
  rw [← totA_take h]
  have e : totA l = totA (l.take (i + 1)) + totA (l.drop (i + 1)) := by
    have := List.take_append_drop (i + 1) l
    conv => lhs; rw [← this]
    unfold totA
    rw [List.map_append, List.sum_append]
  omega
def fewB (l : List Ac) : Bool := decide (l.length ≤ 400) && decide (totA l ≤ 20000)
set_option maxHeartbeats 2000000 in
set_option maxRecDepth 100000 in
theorem few_any {a : Option Addr} {l : List Ac} {cap : Nat} {w : World} (h : ActsAt w a l) (hl : l.length ≤ 4611686018427387904) :
    Calls Try.prog 15 #[.slice a l.length cap] w fun e w' => e = .returned (.bool (fewB l)) ∧ w' = w := by
  obtain ⟨fb, hfb⟩ : ∃ fb, Hid (fewB l = fb) := ⟨_, rfl⟩
  rw [hfb.out]
  obtain ⟨n, hn⟩ : ∃ n, Hid (l.length = n) := ⟨_, rfl⟩
  rw [hn.out] at hl ⊢
  obtain ⟨C, hC⟩ : ∃ C : Nat, Hid (C ≤ 4398046511104) ∧ Hid (∀ (j : Nat) c, l[j]? = some c → c.ch.length ≤ C) := ⟨4398046511104, Nat.le_refl _, fun j c hj => by obtain ⟨b, o, -, -, -, -, -, hcl, -⟩ := h j c hj; exact hcl⟩
  obtain ⟨hC1, hC2⟩ := hC
  replace h := hid_of h
  go_enter Try.func15, Try.ntmps15
  go_wp2_with fail
  go_loop [3, 4] (fun nv iv => ∃ (i : Nat) (x : Int), iv = .int .i64 (i : Nat) ∧ nv = .int .i64 x ∧ i ≤ n ∧ Hid (i ≤ 400 → x = (totA (l.take i) : Nat) ∧ totA (l.take i) ≤ i * C)) (fun _ iv => n - (intOf iv).toNat)
  case atStart => exact ⟨0, 0, rfl, rfl, Nat.zero_le _, fun _ => ⟨rfl, by rw [Nat.zero_mul]; exact Nat.le_refl _⟩⟩
  case round =>
    obtain ⟨i, x, rfl, rfl, hin, hI⟩ := hrel
    by_cases hi : i < n
    · obtain ⟨c, hce⟩ : ∃ c, l[i]? = some c := ⟨_, List.getElem?_eq_getElem (by rw [hn.out]; exact hi)⟩
      obtain ⟨b, o, rfl, hc, -⟩ := h.out i c hce
      have hcl := hC2.out i c hce
      have d1 := hc.ch
      have ht := hid_of (totA_take hce)
      obtain ⟨m, hm⟩ : ∃ m, Hid (c.ch.length = m) := ⟨_, rfl⟩
      rw [hm.out] at d1 hcl ht
      clear hc hce
      by_cases h4 : i < 400
      · obtain ⟨hx, hb⟩ := hI.out (by omega)
        have hx0 : 0 ≤ x := by omega
        have hiC : i * C ≤ 400 * C := Nat.mul_le_mul_right C (by omega)
        have hx1 : x ≤ 1759218604441600 := by have := hC1.out; omega
        have hx2 : Hid (i + 1 ≤ 400 → x + (m : Int) = (totA (l.take (i + 1)) : Nat) ∧ totA (l.take (i + 1)) ≤ (i + 1) * C) := fun _ => by
          rw [ht.out, Nat.succ_mul]
          exact ⟨by omega, by omega⟩
        have hm1 : (m : Int) ≤ 4398046511104 := by have := hC1.out; omega
        clear hx hb hiC hcl
        go_wp2_with fail
        go_round
        case rel => exact ⟨i + 1, _, by go_num, rfl, by omega, hx2⟩
        case measure =>
          simp only [intOf]
          omega
      · clear hI hcl
        go_wp2_with fail
        go_round
        case rel => exact ⟨i + 1, _, by go_num, rfl, by omega, fun h' => by omega⟩
        case measure =>
          simp only [intOf]
          omega
    · obtain rfl : i = n := by omega
      by_cases h4 : i ≤ 400
      · obtain ⟨hx, hb⟩ := hI.out h4
        rw [List.take_of_length_le (by rw [hn.out]; exact Nat.le_refl _)] at hx
        by_cases h5 : totA l ≤ 20000
        · have e1 : fb = true := by rw [← hfb.out]; unfold fewB; rw [hn.out]; simp [h4, h5]
          subst e1
          have h6 : x ≤ 20000 := by omega
          have h7 : (i : Int) ≤ 400 := by omega
          clear hx hb h5
          go_wp2_with fail
          go_ret
          exact ⟨rfl, rfl⟩
        · have e1 : fb = false := by rw [← hfb.out]; unfold fewB; rw [hn.out]; simp [h4]; omega
          subst e1
          have h6 : ¬ x ≤ 20000 := by omega
          have h7 : (i : Int) ≤ 400 := by omega
          clear hx hb h5
          go_wp2_with fail
          go_ret
          exact ⟨rfl, rfl⟩
      · have e1 : fb = false := by rw [← hfb.out]; unfold fewB; rw [hn.out]; simp; omega
        subst e1
        have h7 : ¬ (i : Int) ≤ 400 := by omega
        go_wp2_with fail
        go_ret
        exact ⟨rfl, rfl⟩
end Go.Proofs.Ytpdcinicnekeoaa
