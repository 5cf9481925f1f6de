import Derived.Test.YtnccaidlcaeeaaaGreatDoorV1
import Derived.Test.YtnccaidlcaeeaaaGreatDoorU1
import Derived.Lib.ItoaNum
import Derived.Laws.IdiomStrings
import Derived.Laws.Bits64
import Derived.Deep.Cut
import Derived.Deep.RegionHeld3
/-! The document's natural and Digits: a number in decimal. -/
namespace Go.Proofs.YtnccaidlcaeeaaaGreatDoor.Tree
open Go Go.RowKit

theorem dec_small {n : Nat} (h : n < 10) : Lib.decDigits n = [UInt8.ofNat (48 + n)] := by rw [Lib.decDigits, dif_pos h]
theorem dec_big {n : Nat} (h : ¬ n < 10) : Lib.decDigits n = Lib.decDigits (n / 10) ++ [UInt8.ofNat (48 + n % 10)] := by rw [Lib.decDigits, dif_neg h]
theorem dec_len : ∀ (k n : Nat), n < 10 ^ (k + 1) → (Lib.decDigits n).length ≤ k + 1
  | 0, n, h => by rw [dec_small (by simpa using h)]; simp
  | k + 1, n, h => by
    by_cases hn : n < 10
    · rw [dec_small hn]; simp
    · rw [dec_big hn, List.length_append]
      have := dec_len k (n / 10) (by rw [Nat.pow_succ] at h; omega)
      simp
      omega
theorem dec_short {n : Nat} (h : n < 18446744073709551616) : (Lib.decDigits n).length ≤ 20 := dec_len 19 n (by omega)
theorem dec_size {n : Nat} (h : n < 18446744073709551616) : (⟨(Lib.decDigits n).toArray⟩ : ByteArray).size ≤ 20 := by
  show (Lib.decDigits n).toArray.size ≤ 20
  rw [List.size_toArray]
  exact dec_len 19 n (by omega)
theorem u64_in {x : Int} (h0 : 0 ≤ x) (h1 : x < 18446744073709551616) : IntKind.u64.wrap x = x := by rw [IntKind.wrap_u64]; omega
theorem u8_in {x : Int} (h0 : 0 ≤ x) (h1 : x < 256) : IntKind.u8.wrap x = x := by simp [IntKind.wrap, IntKind.bits, IntKind.signed]; omega
/-- A byte as a text. -/
theorem conv_byte (c : Int) (b : UInt8) (hb : (b.toNat : Int) = c) (W : World) (B : Nat) (h : W.heap[B]? = some (.cells #[.int .u8 c] 5 (0, 0))) : (convert 62 9 (.slice (some ⟨B, 0, none⟩) 1 1)).run Tryz.prog W = .ok (.string ⟨#[b]⟩) W := by
  refine run_convert_bytes_back W 62 9 5 ⟨B, 0, none⟩ 1 [b] Tryz.underlying62 Tryz.underlying5 Tryz.underlying9 (fun j hj => ?_)
  have hj0 : j = 0 := by simpa using hj
  subst hj0
  rw [add_off]
  simp [World.cell?, h, hb]

set_option maxHeartbeats 4000000 in
set_option maxRecDepth 100000 in
theorem natural_code (n : Nat) : n < 18446744073709551616 → ∀ w : World, Calls Tryz.prog 28 #[.int .u64 (n : Int)] w fun e w' => e = .returned (.string ⟨(Lib.decDigits n).toArray⟩) ∧ Below w.heap.size w w' := by
  induction n using Nat.strongRecOn with
  | _ n ih =>
    intro hn w
    have hB : ∀ o, Below w.heap.size w (w.alloc o) := fun o => (Below.refl _ _).alloc (Nat.le_refl _) _
    by_cases h : n < 10
    · rw [dec_small h]
      obtain ⟨cb, hcb⟩ : ∃ b, Hid (UInt8.ofNat (48 + n) = b) := ⟨_, hid_e rfl⟩
      have hct : (cb.toNat : Int) = 48 + (n : Int) := by rw [← hcb.out]; simp; omega
      rw [hcb.out]
      have hcv := conv_byte (48 + (n : Int)) cb hct (w.alloc (.cells #[.int .u8 (48 + (n : Int))] 5)) w.heap.size (heap_alloc_new w _)
      have hw1 : IntKind.u64.wrap (48 + (n : Int)) = 48 + (n : Int) := u64_in (by omega) (by omega)
      have hw2 : IntKind.u8.wrap (48 + (n : Int)) = 48 + (n : Int) := u8_in (by omega) (by omega)
      have h10 : (n : Int) < 10 := by omega
      clear ih
      go_enter Tryz.func28, Tryz.ntmps28
      go_wp2_with fail
      go_ret
      exact ⟨rfl, hB _⟩
    · rw [dec_big h]
      obtain ⟨r, hr⟩ : ∃ r, Hid (n % 10 = r) := ⟨_, hid_e rfl⟩
      have hr10 : r < 10 := by rw [← hr.out]; omega
      rw [hr.out]
      obtain ⟨cb, hcb⟩ : ∃ b, Hid (UInt8.ofNat (48 + r) = b) := ⟨_, hid_e rfl⟩
      have hct : (cb.toNat : Int) = 48 + (r : Int) := by rw [← hcb.out]; simp; omega
      rw [hcb.out]
      have h10 : ¬ (n : Int) < 10 := by omega
      obtain ⟨q, hqe⟩ : ∃ q, Hid (n / 10 = q) := ⟨_, hid_e rfl⟩
      rw [hqe.out]
      have hqn : Hid (q < n ∧ q < 18446744073709551616) := by rw [Hid, ← hqe.out]; omega
      have hq : (n : Int) / 10 = (q : Int) := by rw [← hqe.out]; omega
      have hm : (n : Int) % 10 = (r : Int) := by rw [← hr.out]; omega
      have hq' : Int.tdiv (n : Int) 10 = (q : Int) := by rw [Int.tdiv_eq_ediv_of_nonneg (by omega)]; exact hq
      have hds : ¬ (9223372036854775807 < (Lib.decDigits q).length + 1) := by have := dec_short hqn.out.2; omega
      have hm' : Int.tmod (n : Int) 10 = (r : Int) := by rw [Int.tmod_eq_emod_of_nonneg (by omega)]; exact hm
      have hwq : IntKind.u64.wrap (q : Int) = (q : Int) := u64_in (by omega) (by have := hqn.out; omega)
      have hwr : IntKind.u64.wrap (r : Int) = (r : Int) := u64_in (by omega) (by omega)
      have hw1 : IntKind.u64.wrap (48 + (r : Int)) = 48 + (r : Int) := u64_in (by omega) (by omega)
      have hw2 : IntKind.u8.wrap (48 + (r : Int)) = 48 + (r : Int) := u8_in (by omega) (by omega)
      have hfin : Hid ((⟨(Lib.decDigits q).toArray⟩ : ByteArray) ++ ⟨#[cb]⟩ = ⟨(Lib.decDigits q ++ [cb]).toArray⟩) := by
        apply ByteArray.ext
        rw [ByteArray.data_append]
        simp
      go_enter Tryz.func28, Tryz.ntmps28
      go_upto_region 3 with fail
      have hX : Below w.heap.size w w.drew := below_drew (Below.refl _ w)
      refine wp_region_noPanic ?_
      refine Until.wp_region_U (fun w' => Below w.heap.size w w') (fun _ => True) 10 (by kernel_rfl) ?_
      generalize w.drew = X at hX ⊢
      refine Until.wpU_pure (i := 0) (oi := { dst := some 10, op := Op.move (Operand.tmp 0), type := 58, pos := "print.go:55", after := #[], guard := none }) (v := .int .u64 (n : Int)) rfl (by kernel_rfl) (by kernel_rfl) (by kernel_rfl) (by kernel_rfl) (by kernel_rfl) (fun _ _ _ h => h) (hX) (fun _ => trivial) (by rfl) (by intro w'; go_simp) ?_
      try simp only [Act.put, List.setIfInBounds_toArray, List.set_cons_zero, List.set_cons_succ]
      refine Until.wpU_pure (i := 1) (oi := { dst := some 11, op := Op.binOp BinOp.quo 58 (Operand.tmp 10) (Operand.const (Value.int IntKind.u64 10)) 58, type := 58, pos := "print.go:55", after := #[{ on := 0, ground := Ground.data }], guard := none }) (v := .int .u64 (q : Int)) rfl (by kernel_rfl) (by kernel_rfl) (by kernel_rfl) (by kernel_rfl) (by kernel_rfl) (fun _ _ _ h => h) (hX) (fun _ => trivial) (by rfl) (by intro w'; go_simp) ?_
      try simp only [Act.put, List.setIfInBounds_toArray, List.set_cons_zero, List.set_cons_succ]
      refine Until.wpU_pure (i := 3) (oi := { dst := some 13, op := Op.move (Operand.tmp 0), type := 58, pos := "print.go:55", after := #[], guard := none }) (v := .int .u64 (n : Int)) rfl (by kernel_rfl) (by kernel_rfl) (by kernel_rfl) (by kernel_rfl) (by kernel_rfl) (fun _ _ _ h => h) (hX) (fun _ => trivial) (by rfl) (by intro w'; go_simp) ?_
      try simp only [Act.put, List.setIfInBounds_toArray, List.set_cons_zero, List.set_cons_succ]
      refine Until.wpU_pure (i := 4) (oi := { dst := some 14, op := Op.binOp BinOp.rem 58 (Operand.tmp 13) (Operand.const (Value.int IntKind.u64 10)) 58, type := 58, pos := "print.go:55", after := #[{ on := 3, ground := Ground.data }], guard := none }) (v := .int .u64 (r : Int)) rfl (by kernel_rfl) (by kernel_rfl) (by kernel_rfl) (by kernel_rfl) (by kernel_rfl) (fun _ _ _ h => h) (hX) (fun _ => trivial) (by rfl) (by intro w'; go_simp) ?_
      try simp only [Act.put, List.setIfInBounds_toArray, List.set_cons_zero, List.set_cons_succ]
      refine Until.wpU_pure (i := 5) (oi := { dst := some 15, op := Op.binOp BinOp.add 58 (Operand.const (Value.int IntKind.u64 48)) (Operand.tmp 14) 58, type := 58, pos := "print.go:55", after := #[{ on := 4, ground := Ground.data }], guard := none }) (v := .int .u64 (48 + (r : Int))) rfl (by kernel_rfl) (by kernel_rfl) (by kernel_rfl) (by kernel_rfl) (by kernel_rfl) (fun _ _ _ h => h) (hX) (fun _ => trivial) (by rfl) (by intro w'; go_simp) ?_
      try simp only [Act.put, List.setIfInBounds_toArray, List.set_cons_zero, List.set_cons_succ]
      refine Until.wpU_pure (i := 6) (oi := { dst := some 16, op := Op.convert 58 5 (Operand.tmp 15), type := 5, pos := "print.go:55", after := #[{ on := 5, ground := Ground.data }], guard := none }) (v := .int .u8 (48 + (r : Int))) rfl (by kernel_rfl) (by kernel_rfl) (by kernel_rfl) (by kernel_rfl) (by kernel_rfl) (fun _ _ _ h => h) (hX) (fun _ => trivial) (by rfl) (by intro w'; go_simp) ?_
      try simp only [Act.put, List.setIfInBounds_toArray, List.set_cons_zero, List.set_cons_succ]
      refine Until.wpU_ready (rs := [2, 7]) (by kernel_rfl) (by simp) ?_
      refine (Until.AllU.cons (o := { dst := some 12, op := Op.call { callee := Callee.value (Operand.func 28), args := #[Operand.tmp 11], argTypes := #[58] }, type := 9, pos := "print.go:55", after := #[{ on := 1, ground := Ground.data }], guard := none }) rfl (fun K hK => ?_) (Until.AllU.cons (o := { dst := some 17, op := Op.buildSlice 62 1 #[(0, Operand.tmp 16)], type := 62, pos := "print.go:55", after := #[{ on := 6, ground := Ground.data }], guard := none }) rfl (fun K hK => ?_) Until.AllU.nil))
      · go_simp
        refine (ih q hqn.out.1 hqn.out.2 X).mono ?_
        rintro e Y1 ⟨rfl, hcb⟩
        have hY1 : Below w.heap.size w Y1 := hX.trans (hcb.mono hX.size)
        refine hK.out _ _ (hY1) (fun _ => trivial) ?_
        clear hK K
        try simp only [Act.put, List.setIfInBounds_toArray, List.set_cons_zero, List.set_cons_succ]
        refine Until.wpU_ready (rs := [7]) (by kernel_rfl) (by simp) ?_
        refine (Until.AllU.cons (o := { dst := some 17, op := Op.buildSlice 62 1 #[(0, Operand.tmp 16)], type := 62, pos := "print.go:55", after := #[{ on := 6, ground := Ground.data }], guard := none }) rfl (fun K hK => ?_) Until.AllU.nil)
        go_simp
        have hY2 : Below w.heap.size w (Y1.alloc (.cells #[.int .u8 (48 + (r : Int))] 5)) := hY1.alloc hY1.size _
        refine hK.out _ _ (hY2) (fun _ => trivial) ?_
        clear hK K
        try simp only [Act.put, List.setIfInBounds_toArray, List.set_cons_zero, List.set_cons_succ]
        have hcv := conv_byte (48 + (r : Int)) cb hct (Y1.alloc (.cells #[.int .u8 (48 + (r : Int))] 5)) Y1.heap.size (heap_alloc_new Y1 _)
        refine Until.wpU_ready (rs := [8]) (by kernel_rfl) (by simp) ?_
        refine (Until.AllU.cons (o := { dst := some 18, op := Op.convert 62 9 (Operand.tmp 17), type := 9, pos := "print.go:55", after := #[{ on := 7, ground := Ground.data }], guard := none }) rfl (fun K hK => ?_) Until.AllU.nil)
        go_simp
        clear hcv
        refine hK.out _ _ (hY2) (fun _ => trivial) ?_
        clear hK K
        try simp only [Act.put, List.setIfInBounds_toArray, List.set_cons_zero, List.set_cons_succ]
        refine Until.wpU_ready (rs := [9]) (by kernel_rfl) (by simp) ?_
        refine (Until.AllU.cons (o := { dst := some 19, op := Op.binOp BinOp.add 9 (Operand.tmp 12) (Operand.tmp 18) 9, type := 9, pos := "print.go:55", after := #[{ on := 2, ground := Ground.data }, { on := 8, ground := Ground.data }], guard := none }) rfl (fun K hK => ?_) Until.AllU.nil)
        go_simp
        try rw [hfin.out]
        refine hK.out _ _ (hY2) (fun _ => trivial) ?_
        clear hK K
        try simp only [Act.put, List.setIfInBounds_toArray, List.set_cons_zero, List.set_cons_succ]
        refine Until.wpU_ready (rs := [10]) (by kernel_rfl) (by simp) ?_
        refine (Until.AllU.cons (o := { dst := some 2, op := Op.assign (Operand.tmp 19), type := 9, pos := "print.go:55", after := #[{ on := 9, ground := Ground.data }, { on := 2, ground := Ground.chain }, { on := 0, ground := Ground.phase }, { on := 1, ground := Ground.phase }, { on := 2, ground := Ground.phase }, { on := 3, ground := Ground.phase }, { on := 4, ground := Ground.phase }, { on := 5, ground := Ground.phase }, { on := 6, ground := Ground.phase }, { on := 7, ground := Ground.phase }, { on := 8, ground := Ground.phase }, { on := 9, ground := Ground.phase }], guard := none }) rfl (fun K hK => ?_) Until.AllU.nil)
        go_simp
        refine hK.out _ _ (hY2) (fun _ => trivial) ?_
        clear hK K
        try simp only [Act.put, List.setIfInBounds_toArray, List.set_cons_zero, List.set_cons_succ]
        refine Until.wpU_done (by kernel_rfl) ?_ _
        refine NoPanic.normal ?_
        go_wp2_with fail
        go_ret
        exact ⟨rfl, hY2⟩
      · go_simp
        have hY1 : Below w.heap.size w (X.alloc (.cells #[.int .u8 (48 + (r : Int))] 5)) := hX.alloc hX.size _
        refine hK.out _ _ (hY1) (fun _ => trivial) ?_
        clear hK K
        try simp only [Act.put, List.setIfInBounds_toArray, List.set_cons_zero, List.set_cons_succ]
        have hbk := heap_alloc_new X (.cells #[.int .u8 (48 + (r : Int))] 5)
        have hlt : X.heap.size < (X.alloc (.cells #[.int .u8 (48 + (r : Int))] 5)).heap.size := by rw [World.size_alloc]; omega
        refine Until.wpU_ready (rs := [2, 8]) (by kernel_rfl) (by simp) ?_
        refine (Until.AllU.cons (o := { dst := some 12, op := Op.call { callee := Callee.value (Operand.func 28), args := #[Operand.tmp 11], argTypes := #[58] }, type := 9, pos := "print.go:55", after := #[{ on := 1, ground := Ground.data }], guard := none }) rfl (fun K hK => ?_) (Until.AllU.cons (o := { dst := some 18, op := Op.convert 62 9 (Operand.tmp 17), type := 9, pos := "print.go:55", after := #[{ on := 7, ground := Ground.data }], guard := none }) rfl (fun K hK => ?_) Until.AllU.nil))
        · go_simp
          refine (ih q hqn.out.1 hqn.out.2 _).mono ?_
          rintro e Y2 ⟨rfl, hcb⟩
          have hY2 : Below w.heap.size w Y2 := hY1.trans (hcb.mono hY1.size)
          have hcv := conv_byte (48 + (r : Int)) cb hct Y2 X.heap.size ((hcb.block _ hlt).trans hbk)
          refine hK.out _ _ (hY2) (fun _ => trivial) ?_
          clear hK K
          try simp only [Act.put, List.setIfInBounds_toArray, List.set_cons_zero, List.set_cons_succ]
          refine Until.wpU_ready (rs := [8]) (by kernel_rfl) (by simp) ?_
          refine (Until.AllU.cons (o := { dst := some 18, op := Op.convert 62 9 (Operand.tmp 17), type := 9, pos := "print.go:55", after := #[{ on := 7, ground := Ground.data }], guard := none }) rfl (fun K hK => ?_) Until.AllU.nil)
          go_simp
          clear hcv
          refine hK.out _ _ (hY2) (fun _ => trivial) ?_
          clear hK K
          try simp only [Act.put, List.setIfInBounds_toArray, List.set_cons_zero, List.set_cons_succ]
          refine Until.wpU_ready (rs := [9]) (by kernel_rfl) (by simp) ?_
          refine (Until.AllU.cons (o := { dst := some 19, op := Op.binOp BinOp.add 9 (Operand.tmp 12) (Operand.tmp 18) 9, type := 9, pos := "print.go:55", after := #[{ on := 2, ground := Ground.data }, { on := 8, ground := Ground.data }], guard := none }) rfl (fun K hK => ?_) Until.AllU.nil)
          go_simp
          try rw [hfin.out]
          refine hK.out _ _ (hY2) (fun _ => trivial) ?_
          clear hK K
          try simp only [Act.put, List.setIfInBounds_toArray, List.set_cons_zero, List.set_cons_succ]
          refine Until.wpU_ready (rs := [10]) (by kernel_rfl) (by simp) ?_
          refine (Until.AllU.cons (o := { dst := some 2, op := Op.assign (Operand.tmp 19), type := 9, pos := "print.go:55", after := #[{ on := 9, ground := Ground.data }, { on := 2, ground := Ground.chain }, { on := 0, ground := Ground.phase }, { on := 1, ground := Ground.phase }, { on := 2, ground := Ground.phase }, { on := 3, ground := Ground.phase }, { on := 4, ground := Ground.phase }, { on := 5, ground := Ground.phase }, { on := 6, ground := Ground.phase }, { on := 7, ground := Ground.phase }, { on := 8, ground := Ground.phase }, { on := 9, ground := Ground.phase }], guard := none }) rfl (fun K hK => ?_) Until.AllU.nil)
          go_simp
          refine hK.out _ _ (hY2) (fun _ => trivial) ?_
          clear hK K
          try simp only [Act.put, List.setIfInBounds_toArray, List.set_cons_zero, List.set_cons_succ]
          refine Until.wpU_done (by kernel_rfl) ?_ _
          refine NoPanic.normal ?_
          go_wp2_with fail
          go_ret
          exact ⟨rfl, hY2⟩
        · have hcv := conv_byte (48 + (r : Int)) cb hct (X.alloc (.cells #[.int .u8 (48 + (r : Int))] 5)) X.heap.size hbk
          go_simp
          clear hcv
          refine hK.out _ _ (hY1) (fun _ => trivial) ?_
          clear hK K
          try simp only [Act.put, List.setIfInBounds_toArray, List.set_cons_zero, List.set_cons_succ]
          refine Until.wpU_ready (rs := [2]) (by kernel_rfl) (by simp) ?_
          refine (Until.AllU.cons (o := { dst := some 12, op := Op.call { callee := Callee.value (Operand.func 28), args := #[Operand.tmp 11], argTypes := #[58] }, type := 9, pos := "print.go:55", after := #[{ on := 1, ground := Ground.data }], guard := none }) rfl (fun K hK => ?_) Until.AllU.nil)
          go_simp
          refine (ih q hqn.out.1 hqn.out.2 _).mono ?_
          rintro e Y2 ⟨rfl, hcb⟩
          have hY2 : Below w.heap.size w Y2 := hY1.trans (hcb.mono hY1.size)
          refine hK.out _ _ (hY2) (fun _ => trivial) ?_
          clear hK K
          try simp only [Act.put, List.setIfInBounds_toArray, List.set_cons_zero, List.set_cons_succ]
          refine Until.wpU_ready (rs := [9]) (by kernel_rfl) (by simp) ?_
          refine (Until.AllU.cons (o := { dst := some 19, op := Op.binOp BinOp.add 9 (Operand.tmp 12) (Operand.tmp 18) 9, type := 9, pos := "print.go:55", after := #[{ on := 2, ground := Ground.data }, { on := 8, ground := Ground.data }], guard := none }) rfl (fun K hK => ?_) Until.AllU.nil)
          go_simp
          try rw [hfin.out]
          refine hK.out _ _ (hY2) (fun _ => trivial) ?_
          clear hK K
          try simp only [Act.put, List.setIfInBounds_toArray, List.set_cons_zero, List.set_cons_succ]
          refine Until.wpU_ready (rs := [10]) (by kernel_rfl) (by simp) ?_
          refine (Until.AllU.cons (o := { dst := some 2, op := Op.assign (Operand.tmp 19), type := 9, pos := "print.go:55", after := #[{ on := 9, ground := Ground.data }, { on := 2, ground := Ground.chain }, { on := 0, ground := Ground.phase }, { on := 1, ground := Ground.phase }, { on := 2, ground := Ground.phase }, { on := 3, ground := Ground.phase }, { on := 4, ground := Ground.phase }, { on := 5, ground := Ground.phase }, { on := 6, ground := Ground.phase }, { on := 7, ground := Ground.phase }, { on := 8, ground := Ground.phase }, { on := 9, ground := Ground.phase }], guard := none }) rfl (fun K hK => ?_) Until.AllU.nil)
          go_simp
          refine hK.out _ _ (hY2) (fun _ => trivial) ?_
          clear hK K
          try simp only [Act.put, List.setIfInBounds_toArray, List.set_cons_zero, List.set_cons_succ]
          refine Until.wpU_done (by kernel_rfl) ?_ _
          refine NoPanic.normal ?_
          go_wp2_with fail
          go_ret
          exact ⟨rfl, hY2⟩
set_option maxHeartbeats 2000000 in
theorem digits_code (x : Int) (h0 : -9223372036854775808 ≤ x) (h1 : x ≤ 9223372036854775807) (w : World) : Calls Tryz.prog 21 #[.int .i64 x] w fun e w' => e = .returned (.string ⟨(Lib.itoa x).toArray⟩) ∧ Below w.heap.size w w' := by
  unfold Lib.itoa
  by_cases h : x < 0
  · rw [if_pos h]
    obtain ⟨m, hm⟩ : ∃ m, Hid (x.natAbs = m) := ⟨_, hid_e rfl⟩
    rw [hm.out]
    have hmx : (m : Int) = -x := by rw [← hm.out]; omega
    have hw1 : IntKind.i64.wrap (x + 1) = x + 1 := by rw [IntKind.wrap_i64]; omega
    have hw2 : IntKind.i64.wrap (-(x + 1)) = -(x + 1) := by rw [IntKind.wrap_i64]; omega
    have hw3 : IntKind.u64.wrap (-(x + 1)) = -(x + 1) := u64_in (by omega) (by omega)
    have hw4 : IntKind.u64.wrap (-(x + 1) + 1) = (m : Int) := by rw [u64_in (by omega) (by omega)]; omega
    have hfin : Hid ((⟨#[45]⟩ : ByteArray) ++ ⟨(Lib.decDigits m).toArray⟩ = ⟨(45 :: Lib.decDigits m).toArray⟩) := by
      apply ByteArray.ext
      rw [ByteArray.data_append]
      simp
    have hcall := hid_e (natural_code m (by omega) w)
    rw [hmx] at hcall
    have hds : ¬ (9223372036854775807 < (Lib.decDigits m).length + 1) := by have := dec_short (n := m) (by omega); omega
    have hds2 : ¬ (9223372036854775807 < 1 + (Lib.decDigits m).length) := by omega
    go_enter Tryz.func21, Tryz.ntmps21
    go_wp2_with fail
    go_fit hcall.out
    rintro e w1 ⟨rfl, hb⟩
    go_wp2_with fail
    go_ret
    exact ⟨by first | rfl | (rw [hfin.out]), hb⟩
  · rw [if_neg h]
    obtain ⟨m, hm⟩ : ∃ m, Hid (x.toNat = m) := ⟨_, hid_e rfl⟩
    rw [hm.out]
    have hmx : x = (m : Int) := by rw [← hm.out]; omega
    subst hmx
    have hw3 : IntKind.u64.wrap (m : Int) = (m : Int) := u64_in (by omega) (by omega)
    have hcall := hid_e (natural_code m (by omega) w)
    go_enter Tryz.func21, Tryz.ntmps21
    go_wp2_with fail
    go_fit hcall.out
    rintro e w1 ⟨rfl, hb⟩
    go_wp2_with fail
    go_ret
    exact ⟨rfl, hb⟩
end Go.Proofs.YtnccaidlcaeeaaaGreatDoor.Tree
