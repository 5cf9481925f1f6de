import Derived.Test.YtjhefkojfojjdaaGreatDoorV1
import Derived.Deep.AppendSrc
import Derived.Deep.AppendLies
import Derived.Test.YtjhefkojfojjdaaGreatDoorU1
import Derived.Lib.ItoaNum
import Derived.Laws.IdiomStrings
import Derived.Laws.Bits64
import Derived.Deep.Cut
import Derived.Deep.RegionHeld3
/-! append onto a row that the call owns, of a text or of another row. -/
namespace Go.Proofs.YtjhefkojfojjdaaGreatDoor.Tree
open Go Go.RowKit

theorem setCells_block (g : Nat) : ∀ (vs : List Value) (o : Nat) (w : World) (cur : Array Value) (t : TypeId) (f : Nat × Nat), w.heap[g]? = some (.cells cur t f) → o + vs.length ≤ cur.size →
    ∃ cur', (w.setCells g o vs).heap[g]? = some (.cells cur' t f) ∧ cur'.size = cur.size ∧ ∀ j : Nat, cur'[j]? = if o ≤ j ∧ j < o + vs.length then vs[j - o]? else cur[j]?
  | [], o, w, cur, t, f, h, _ => ⟨cur, h, rfl, fun j => by rw [if_neg (by simp only [List.length_nil]; omega)]⟩
  | v :: r, o, w, cur, t, f, h, hl => by
    have h1 : (w.setCell ⟨g, o, none⟩ v).heap[g]? = some (.cells (cur.setIfInBounds o v) t f) := by
      simp [World.setCell, Array.getElem?_modify, h]
    simp only [List.length_cons] at hl
    obtain ⟨cur', e1, e2, e3⟩ := setCells_block g r (o + 1) _ _ t f h1 (by simp; omega)
    refine ⟨cur', e1, by rw [e2]; simp, fun j => ?_⟩
    rw [e3 j]
    simp only [List.length_cons]
    by_cases hj : j = o
    · subst hj
      rw [if_neg (by omega), if_pos (by omega), Array.getElem?_setIfInBounds, if_pos rfl, if_pos (by omega)]
      simp
    · by_cases hin : o + 1 ≤ j ∧ j < o + 1 + r.length
      · rw [if_pos hin, if_pos (by omega)]
        rw [show j - o = (j - (o + 1)) + 1 by omega]
        simp
      · rw [if_neg hin, if_neg (by omega), Array.getElem?_setIfInBounds, if_neg (by omega)]
theorem setCells_old (g : Nat) : ∀ (vs : List Value) (o : Nat) (w : World), (w.setCells g o vs).heap.size = w.heap.size ∧ (w.setCells g o vs).os = w.os ∧ (w.setCells g o vs).tape = w.tape ∧ (w.setCells g o vs).output = w.output ∧ ∀ k, k ≠ g → (w.setCells g o vs).heap[k]? = w.heap[k]?
  | [], _, _ => ⟨rfl, rfl, rfl, rfl, fun _ _ => rfl⟩
  | v :: r, o, w => by
    obtain ⟨h1, h2, h3, h4, h5⟩ := setCells_old g r (o + 1) (w.setCell ⟨g, o, none⟩ v)
    refine ⟨h1.trans (by simp [World.setCell]), h2.trans rfl, h3.trans rfl, h4.trans rfl, fun k hk => (h5 k hk).trans (Below.heap_setCell _ _ _ _ hk)⟩

section
variable {P : Program} (w : World)
theorem run_append_src (base : Nat) (t tx ty e : TypeId) (i : TypeInfo) (z : Value) (bytes : Nat) (ht : P.underlying t = some (.slice e)) (hi : P.info? e = some i) (hz : i.zero = some z)
    (hsize : i.size = 1) (hby : i.bytes = bytes) (hzs : z.cells.size = 1) (g n cap : Nat) (xs : List Value) (hown : w.ownsRow base e 1 (.slice (some ⟨g, 0, none⟩) n cap) n xs) (x : Value) (m : Nat) (news : List Value) (hs : Src P 1 tx x m news w)
    (h63 : n + m ≤ maxLen) (hbytes : (n + m) * bytes ≤ 140737488355328) (hbase : base ≤ w.heap.size) :
    ∃ g' cap' w', (Builtin.append_ #[t, tx] ty #[.slice (some ⟨g, 0, none⟩) n cap, x]).run P w = .ok (.slice (some ⟨g', 0, none⟩) (n + m) cap') w' ∧
      w'.ownsRow base e 1 (.slice (some ⟨g', 0, none⟩) (n + m) cap') (n + m) (xs ++ news) ∧ w.grownBy w' (some g) ∧ (g' = g ∨ g' = w.heap.size) := by
  subst hby
  have hsmall : n + m ≤ 9223372036854775807 := by simp only [maxLen] at h63; omega
  have hnl : news.length = m := by have := hs.newsLen; omega
  have hlen : (xs ++ news).length = (n + m) * 1 := by rw [List.length_append, hown.1, hnl]; omega
  have hxl : xs.length = n := by have := hown.1; omega
  have hs' : Src P i.size tx x m news w := by rw [hsize]; exact hs
  obtain ⟨-, h2⟩ := id hown
  rcases h2 with ⟨hv, _⟩ | ⟨g0, cap0, cur, hv, hbg, hg, hnc, hcm, hcs, htake⟩
  · cases hv
  · cases hv
    by_cases hroom : n + m ≤ cap
    · have hfit : n * i.size + news.length ≤ cur.size := by rw [hnl, hcs, hsize]; omega
      have hr := run_append_room_src (P := P) w t tx ty e i ht hi g 0 n cap x m news hs' hroom
        (fun j hj => by
          have : n * i.size + j < cur.size := by omega
          simp [World.cell?, hg, this])
        (fun j hj => by simp [World.frozen?, hg])
      obtain ⟨cur', e1, e2, e3⟩ := setCells_block g news (0 + n * i.size) w cur e (0, 0) hg (by omega)
      obtain ⟨f1, f2, f3, f4, f5⟩ := setCells_old g news (0 + n * i.size) w
      refine ⟨g, cap, _, hr, ⟨hlen, .inr ⟨g, cap, cur', rfl, hbg, e1, hroom, hcm, by rw [e2, hcs], ?_⟩⟩, ⟨f2, f3, f4, by rw [f1]; exact Nat.le_refl _, fun k _ hk => f5 k (fun e => hk (by rw [e]))⟩, .inl rfl⟩
      apply List.ext_getElem?
      intro j
      rw [List.getElem?_take]
      by_cases hj : j < (n + m) * 1
      · rw [if_pos (by omega), Array.getElem?_toList, e3 j]
        by_cases hjn : j < n
        · rw [if_neg (by rw [hsize]; omega), List.getElem?_append_left (by omega), ← htake, List.getElem?_take, if_pos (by omega), Array.getElem?_toList]
        · rw [if_pos (by rw [hsize, hnl]; omega), List.getElem?_append_right (by omega), hxl, hsize]
          congr 1
          omega
      · rw [if_neg (by omega), List.getElem?_eq_none (by rw [hlen]; omega)]
    · have hge := grownCap_ge w (n + m) cap e
      have hcm' : grownCap w (n + m) cap e ≤ maxLen := grownCap_le_maxLen w (n + m) cap e h63
      have holds : ∀ j u, xs[j]? = some u → w.drew.cell? ((⟨g, 0, none⟩ : Addr).add j) = some u := hown.cells (g := g) rfl
      have hold := run_firstCells_some (P := P) w.drew i.size n ⟨g, 0, none⟩ n cap xs (by rw [hsize]; omega) holds
      have hr := run_append_grow_src (P := P) w t tx ty e i z ht hi hz (some ⟨g, 0, none⟩) n cap xs hold x m news hs' (by omega) (by omega) (growslice_fits (by omega) hbytes)
      refine ⟨_, _, _, hr, ⟨hlen, .inr ⟨w.heap.size, _, _, rfl, hbase, heap_alloc_new w.drew _, hge, hcm', ?_, ?_⟩⟩, ⟨rfl, rfl, rfl, by simp, fun k hk _ => heap_alloc_old w.drew _ hk⟩, .inr rfl⟩
      · simp only [Array.size_append, List.size_toArray, size_zeroCells, hzs, hlen]
        omega
      · simp only [Array.toList_append]
        rw [← hlen]
        exact List.take_left
theorem wpList_append_src {ops : Array Oper} {rest : List Oper} {o : Oper} {a : Act} {Q : Exit → Act → World → Prop} (hgd : o.guard = none) (s y : Operand) (t tx : TypeId)
    (ho : o.op = .call { callee := .builtin .append, args := #[s, y], argTypes := #[t, tx] })
    (base : Nat) (e : TypeId) (i : TypeInfo) (z : Value) (bytes : Nat) (ht : P.underlying t = some (.slice e)) (hi : P.info? e = some i) (hz : i.zero = some z)
    (hsize : i.size = 1) (hby : i.bytes = bytes) (hzs : z.cells.size = 1)
    (g n cap : Nat) (xs : List Value) (hse : a.eval s = .slice (some ⟨g, 0, none⟩) n cap) (hown : w.ownsRow base e 1 (.slice (some ⟨g, 0, none⟩) n cap) n xs)
    (x : Value) (m : Nat) (news : List Value) (hx : a.eval y = x) (hs : Src P 1 tx x m news w)
    (h63 : n + m ≤ maxLen) (hbytes : (n + m) * bytes ≤ 140737488355328) (hbase : base ≤ w.heap.size)
    (h : ∀ g' cap' w', w'.ownsRow base e 1 (.slice (some ⟨g', 0, none⟩) (n + m) cap') (n + m) (xs ++ news) → w.grownBy w' (some g) → (g' = g ∨ g' = w.heap.size) → wpList P ops Q rest (a.put o.dst (.slice (some ⟨g', 0, none⟩) (n + m) cap')) w') : wpList P ops Q (o :: rest) a w :=
  wpList_plain hgd fun K hK => by
    obtain ⟨g', cap', w', hr, h2, h3, h4⟩ := run_append_src (P := P) w base t tx o.type e i z bytes ht hi hz hsize hby hzs g n cap xs hown x m news hs h63 hbytes hbase
    unfold Oper.wp execOp
    simp only [ho, resolve, invoke, builtin, Sem.run_bind, Sem.run_pure, Result.andThen_ok, List.map_toArray, List.map_cons, List.map_nil, hse, hx, hr]
    exact hK _ _ (h g' cap' w' h2 h3 h4)
end
end Go.Proofs.YtjhefkojfojjdaaGreatDoor.Tree
/-! The document's natural and Digits: a number in decimal. -/
namespace Go.Proofs.YtjhefkojfojjdaaGreatDoor.Tree
open Go Go.RowKit

theorem dec_small {n : Nat} (h : n < 10) : Lib.decDigits n = [UInt8.ofNat (48 + n)] := by rw [Lib.decDigits, dif_pos h]
theorem dec_big {n : Nat} (h : ¬ n < 10) : Lib.decDigits n = Lib.decDigits (n / 10) ++ [UInt8.ofNat (48 + n % 10)] := by rw [Lib.decDigits, dif_neg h]
theorem dec_len : ∀ (k n : Nat), n < 10 ^ (k + 1) → (Lib.decDigits n).length ≤ k + 1
  | 0, n, h => by rw [dec_small (by simpa using h)]; simp
  | k + 1, n, h => by
    by_cases hn : n < 10
    · rw [dec_small hn]; simp
    · rw [dec_big hn, List.length_append]
      have := dec_len k (n / 10) (by rw [Nat.pow_succ] at h; omega)
      simp
      omega
theorem dec_short {n : Nat} (h : n < 18446744073709551616) : (Lib.decDigits n).length ≤ 20 := dec_len 19 n (by omega)
theorem dec_size {n : Nat} (h : n < 18446744073709551616) : (⟨(Lib.decDigits n).toArray⟩ : ByteArray).size ≤ 20 := by
  show (Lib.decDigits n).toArray.size ≤ 20
  rw [List.size_toArray]
  exact dec_len 19 n (by omega)
theorem u64_in {x : Int} (h0 : 0 ≤ x) (h1 : x < 18446744073709551616) : IntKind.u64.wrap x = x := by rw [IntKind.wrap_u64]; omega
theorem u8_in {x : Int} (h0 : 0 ≤ x) (h1 : x < 256) : IntKind.u8.wrap x = x := by simp [IntKind.wrap, IntKind.bits, IntKind.signed]; omega
/-- A byte as a text. -/
theorem conv_byte (c : Int) (b : UInt8) (hb : (b.toNat : Int) = c) (W : World) (B : Nat) (h : W.heap[B]? = some (.cells #[.int .u8 c] 5 (0, 0))) : (convert 40 9 (.slice (some ⟨B, 0, none⟩) 1 1)).run Tryz.prog W = .ok (.string ⟨#[b]⟩) W := by
  refine run_convert_bytes_back W 40 9 5 ⟨B, 0, none⟩ 1 [b] Tryz.underlying40 Tryz.underlying5 Tryz.underlying9 (fun j hj => ?_)
  have hj0 : j = 0 := by simpa using hj
  subst hj0
  rw [add_off]
  simp [World.cell?, h, hb]

set_option maxHeartbeats 4000000 in
set_option maxRecDepth 100000 in
theorem natural_code (n : Nat) : n < 18446744073709551616 → ∀ w : World, Calls Tryz.prog 50 #[.int .u64 (n : Int)] w fun e w' => e = .returned (.string ⟨(Lib.decDigits n).toArray⟩) ∧ Below w.heap.size w w' := by
  induction n using Nat.strongRecOn with
  | _ n ih =>
    intro hn w
    have hB : ∀ o, Below w.heap.size w (w.alloc o) := fun o => (Below.refl _ _).alloc (Nat.le_refl _) _
    by_cases h : n < 10
    · rw [dec_small h]
      obtain ⟨cb, hcb⟩ : ∃ b, Hid (UInt8.ofNat (48 + n) = b) := ⟨_, hid_e rfl⟩
      have hct : (cb.toNat : Int) = 48 + (n : Int) := by rw [← hcb.out]; simp; omega
      rw [hcb.out]
      have hcv := conv_byte (48 + (n : Int)) cb hct (w.alloc (.cells #[.int .u8 (48 + (n : Int))] 5)) w.heap.size (heap_alloc_new w _)
      have hw1 : IntKind.u64.wrap (48 + (n : Int)) = 48 + (n : Int) := u64_in (by omega) (by omega)
      have hw2 : IntKind.u8.wrap (48 + (n : Int)) = 48 + (n : Int) := u8_in (by omega) (by omega)
      have h10 : (n : Int) < 10 := by omega
      clear ih
      go_enter Tryz.func50, Tryz.ntmps50
      go_wp2_with fail
      go_ret
      exact ⟨rfl, hB _⟩
    · rw [dec_big h]
      obtain ⟨r, hr⟩ : ∃ r, Hid (n % 10 = r) := ⟨_, hid_e rfl⟩
      have hr10 : r < 10 := by rw [← hr.out]; omega
      rw [hr.out]
      obtain ⟨cb, hcb⟩ : ∃ b, Hid (UInt8.ofNat (48 + r) = b) := ⟨_, hid_e rfl⟩
      have hct : (cb.toNat : Int) = 48 + (r : Int) := by rw [← hcb.out]; simp; omega
      rw [hcb.out]
      have h10 : ¬ (n : Int) < 10 := by omega
      obtain ⟨q, hqe⟩ : ∃ q, Hid (n / 10 = q) := ⟨_, hid_e rfl⟩
      rw [hqe.out]
      have hqn : Hid (q < n ∧ q < 18446744073709551616) := by rw [Hid, ← hqe.out]; omega
      have hq : (n : Int) / 10 = (q : Int) := by rw [← hqe.out]; omega
      have hm : (n : Int) % 10 = (r : Int) := by rw [← hr.out]; omega
      have hq' : Int.tdiv (n : Int) 10 = (q : Int) := by rw [Int.tdiv_eq_ediv_of_nonneg (by omega)]; exact hq
      have hds : ¬ (9223372036854775807 < (Lib.decDigits q).length + 1) := by have := dec_short hqn.out.2; omega
      have hm' : Int.tmod (n : Int) 10 = (r : Int) := by rw [Int.tmod_eq_emod_of_nonneg (by omega)]; exact hm
      have hwq : IntKind.u64.wrap (q : Int) = (q : Int) := u64_in (by omega) (by have := hqn.out; omega)
      have hwr : IntKind.u64.wrap (r : Int) = (r : Int) := u64_in (by omega) (by omega)
      have hw1 : IntKind.u64.wrap (48 + (r : Int)) = 48 + (r : Int) := u64_in (by omega) (by omega)
      have hw2 : IntKind.u8.wrap (48 + (r : Int)) = 48 + (r : Int) := u8_in (by omega) (by omega)
      have hfin : Hid ((⟨(Lib.decDigits q).toArray⟩ : ByteArray) ++ ⟨#[cb]⟩ = ⟨(Lib.decDigits q ++ [cb]).toArray⟩) := by
        apply ByteArray.ext
        rw [ByteArray.data_append]
        simp
      go_enter Tryz.func50, Tryz.ntmps50
      go_upto_region 3 with fail
      have hX : Below w.heap.size w w.drew := below_drew (Below.refl _ w)
      refine wp_region_noPanic ?_
      refine Until.wp_region_U (fun w' => Below w.heap.size w w') (fun _ => True) 10 (by kernel_rfl) ?_
      generalize w.drew = X at hX ⊢
      refine Until.wpU_pure (i := 0) (oi := { dst := some 10, op := Op.move (Operand.tmp 0), type := 77, pos := "print.go:55", after := #[], guard := none }) (v := .int .u64 (n : Int)) rfl (by kernel_rfl) (by kernel_rfl) (by kernel_rfl) (by kernel_rfl) (by kernel_rfl) (fun _ _ _ h => h) (hX) (fun _ => trivial) (by rfl) (by intro w'; go_simp) ?_
      try simp only [Act.put, List.setIfInBounds_toArray, List.set_cons_zero, List.set_cons_succ]
      refine Until.wpU_pure (i := 1) (oi := { dst := some 11, op := Op.binOp BinOp.quo 77 (Operand.tmp 10) (Operand.const (Value.int IntKind.u64 10)) 77, type := 77, pos := "print.go:55", after := #[{ on := 0, ground := Ground.data }], guard := none }) (v := .int .u64 (q : Int)) rfl (by kernel_rfl) (by kernel_rfl) (by kernel_rfl) (by kernel_rfl) (by kernel_rfl) (fun _ _ _ h => h) (hX) (fun _ => trivial) (by rfl) (by intro w'; go_simp) ?_
      try simp only [Act.put, List.setIfInBounds_toArray, List.set_cons_zero, List.set_cons_succ]
      refine Until.wpU_pure (i := 3) (oi := { dst := some 13, op := Op.move (Operand.tmp 0), type := 77, pos := "print.go:55", after := #[], guard := none }) (v := .int .u64 (n : Int)) rfl (by kernel_rfl) (by kernel_rfl) (by kernel_rfl) (by kernel_rfl) (by kernel_rfl) (fun _ _ _ h => h) (hX) (fun _ => trivial) (by rfl) (by intro w'; go_simp) ?_
      try simp only [Act.put, List.setIfInBounds_toArray, List.set_cons_zero, List.set_cons_succ]
      refine Until.wpU_pure (i := 4) (oi := { dst := some 14, op := Op.binOp BinOp.rem 77 (Operand.tmp 13) (Operand.const (Value.int IntKind.u64 10)) 77, type := 77, pos := "print.go:55", after := #[{ on := 3, ground := Ground.data }], guard := none }) (v := .int .u64 (r : Int)) rfl (by kernel_rfl) (by kernel_rfl) (by kernel_rfl) (by kernel_rfl) (by kernel_rfl) (fun _ _ _ h => h) (hX) (fun _ => trivial) (by rfl) (by intro w'; go_simp) ?_
      try simp only [Act.put, List.setIfInBounds_toArray, List.set_cons_zero, List.set_cons_succ]
      refine Until.wpU_pure (i := 5) (oi := { dst := some 15, op := Op.binOp BinOp.add 77 (Operand.const (Value.int IntKind.u64 48)) (Operand.tmp 14) 77, type := 77, pos := "print.go:55", after := #[{ on := 4, ground := Ground.data }], guard := none }) (v := .int .u64 (48 + (r : Int))) rfl (by kernel_rfl) (by kernel_rfl) (by kernel_rfl) (by kernel_rfl) (by kernel_rfl) (fun _ _ _ h => h) (hX) (fun _ => trivial) (by rfl) (by intro w'; go_simp) ?_
      try simp only [Act.put, List.setIfInBounds_toArray, List.set_cons_zero, List.set_cons_succ]
      refine Until.wpU_pure (i := 6) (oi := { dst := some 16, op := Op.convert 77 5 (Operand.tmp 15), type := 5, pos := "print.go:55", after := #[{ on := 5, ground := Ground.data }], guard := none }) (v := .int .u8 (48 + (r : Int))) rfl (by kernel_rfl) (by kernel_rfl) (by kernel_rfl) (by kernel_rfl) (by kernel_rfl) (fun _ _ _ h => h) (hX) (fun _ => trivial) (by rfl) (by intro w'; go_simp) ?_
      try simp only [Act.put, List.setIfInBounds_toArray, List.set_cons_zero, List.set_cons_succ]
      refine Until.wpU_ready (rs := [2, 7]) (by kernel_rfl) (by simp) ?_
      refine (Until.AllU.cons (o := { dst := some 12, op := Op.call { callee := Callee.value (Operand.func 50), args := #[Operand.tmp 11], argTypes := #[77] }, type := 9, pos := "print.go:55", after := #[{ on := 1, ground := Ground.data }], guard := none }) rfl (fun K hK => ?_) (Until.AllU.cons (o := { dst := some 17, op := Op.buildSlice 40 1 #[(0, Operand.tmp 16)], type := 40, pos := "print.go:55", after := #[{ on := 6, ground := Ground.data }], guard := none }) rfl (fun K hK => ?_) Until.AllU.nil))
      · go_simp
        refine (ih q hqn.out.1 hqn.out.2 X).mono ?_
        rintro e Y1 ⟨rfl, hcb⟩
        have hY1 : Below w.heap.size w Y1 := hX.trans (hcb.mono hX.size)
        refine hK.out _ _ (hY1) (fun _ => trivial) ?_
        clear hK K
        try simp only [Act.put, List.setIfInBounds_toArray, List.set_cons_zero, List.set_cons_succ]
        refine Until.wpU_ready (rs := [7]) (by kernel_rfl) (by simp) ?_
        refine (Until.AllU.cons (o := { dst := some 17, op := Op.buildSlice 40 1 #[(0, Operand.tmp 16)], type := 40, pos := "print.go:55", after := #[{ on := 6, ground := Ground.data }], guard := none }) rfl (fun K hK => ?_) Until.AllU.nil)
        go_simp
        have hY2 : Below w.heap.size w (Y1.alloc (.cells #[.int .u8 (48 + (r : Int))] 5)) := hY1.alloc hY1.size _
        refine hK.out _ _ (hY2) (fun _ => trivial) ?_
        clear hK K
        try simp only [Act.put, List.setIfInBounds_toArray, List.set_cons_zero, List.set_cons_succ]
        have hcv := conv_byte (48 + (r : Int)) cb hct (Y1.alloc (.cells #[.int .u8 (48 + (r : Int))] 5)) Y1.heap.size (heap_alloc_new Y1 _)
        refine Until.wpU_ready (rs := [8]) (by kernel_rfl) (by simp) ?_
        refine (Until.AllU.cons (o := { dst := some 18, op := Op.convert 40 9 (Operand.tmp 17), type := 9, pos := "print.go:55", after := #[{ on := 7, ground := Ground.data }], guard := none }) rfl (fun K hK => ?_) Until.AllU.nil)
        go_simp
        clear hcv
        refine hK.out _ _ (hY2) (fun _ => trivial) ?_
        clear hK K
        try simp only [Act.put, List.setIfInBounds_toArray, List.set_cons_zero, List.set_cons_succ]
        refine Until.wpU_ready (rs := [9]) (by kernel_rfl) (by simp) ?_
        refine (Until.AllU.cons (o := { dst := some 19, op := Op.binOp BinOp.add 9 (Operand.tmp 12) (Operand.tmp 18) 9, type := 9, pos := "print.go:55", after := #[{ on := 2, ground := Ground.data }, { on := 8, ground := Ground.data }], guard := none }) rfl (fun K hK => ?_) Until.AllU.nil)
        go_simp
        try rw [hfin.out]
        refine hK.out _ _ (hY2) (fun _ => trivial) ?_
        clear hK K
        try simp only [Act.put, List.setIfInBounds_toArray, List.set_cons_zero, List.set_cons_succ]
        refine Until.wpU_ready (rs := [10]) (by kernel_rfl) (by simp) ?_
        refine (Until.AllU.cons (o := { dst := some 2, op := Op.assign (Operand.tmp 19), type := 9, pos := "print.go:55", after := #[{ on := 9, ground := Ground.data }, { on := 2, ground := Ground.chain }, { on := 0, ground := Ground.phase }, { on := 1, ground := Ground.phase }, { on := 2, ground := Ground.phase }, { on := 3, ground := Ground.phase }, { on := 4, ground := Ground.phase }, { on := 5, ground := Ground.phase }, { on := 6, ground := Ground.phase }, { on := 7, ground := Ground.phase }, { on := 8, ground := Ground.phase }, { on := 9, ground := Ground.phase }], guard := none }) rfl (fun K hK => ?_) Until.AllU.nil)
        go_simp
        refine hK.out _ _ (hY2) (fun _ => trivial) ?_
        clear hK K
        try simp only [Act.put, List.setIfInBounds_toArray, List.set_cons_zero, List.set_cons_succ]
        refine Until.wpU_done (by kernel_rfl) ?_ _
        refine NoPanic.normal ?_
        go_wp2_with fail
        go_ret
        exact ⟨rfl, hY2⟩
      · go_simp
        have hY1 : Below w.heap.size w (X.alloc (.cells #[.int .u8 (48 + (r : Int))] 5)) := hX.alloc hX.size _
        refine hK.out _ _ (hY1) (fun _ => trivial) ?_
        clear hK K
        try simp only [Act.put, List.setIfInBounds_toArray, List.set_cons_zero, List.set_cons_succ]
        have hbk := heap_alloc_new X (.cells #[.int .u8 (48 + (r : Int))] 5)
        have hlt : X.heap.size < (X.alloc (.cells #[.int .u8 (48 + (r : Int))] 5)).heap.size := by rw [World.size_alloc]; omega
        refine Until.wpU_ready (rs := [2, 8]) (by kernel_rfl) (by simp) ?_
        refine (Until.AllU.cons (o := { dst := some 12, op := Op.call { callee := Callee.value (Operand.func 50), args := #[Operand.tmp 11], argTypes := #[77] }, type := 9, pos := "print.go:55", after := #[{ on := 1, ground := Ground.data }], guard := none }) rfl (fun K hK => ?_) (Until.AllU.cons (o := { dst := some 18, op := Op.convert 40 9 (Operand.tmp 17), type := 9, pos := "print.go:55", after := #[{ on := 7, ground := Ground.data }], guard := none }) rfl (fun K hK => ?_) Until.AllU.nil))
        · go_simp
          refine (ih q hqn.out.1 hqn.out.2 _).mono ?_
          rintro e Y2 ⟨rfl, hcb⟩
          have hY2 : Below w.heap.size w Y2 := hY1.trans (hcb.mono hY1.size)
          have hcv := conv_byte (48 + (r : Int)) cb hct Y2 X.heap.size ((hcb.block _ hlt).trans hbk)
          refine hK.out _ _ (hY2) (fun _ => trivial) ?_
          clear hK K
          try simp only [Act.put, List.setIfInBounds_toArray, List.set_cons_zero, List.set_cons_succ]
          refine Until.wpU_ready (rs := [8]) (by kernel_rfl) (by simp) ?_
          refine (Until.AllU.cons (o := { dst := some 18, op := Op.convert 40 9 (Operand.tmp 17), type := 9, pos := "print.go:55", after := #[{ on := 7, ground := Ground.data }], guard := none }) rfl (fun K hK => ?_) Until.AllU.nil)
          go_simp
          clear hcv
          refine hK.out _ _ (hY2) (fun _ => trivial) ?_
          clear hK K
          try simp only [Act.put, List.setIfInBounds_toArray, List.set_cons_zero, List.set_cons_succ]
          refine Until.wpU_ready (rs := [9]) (by kernel_rfl) (by simp) ?_
          refine (Until.AllU.cons (o := { dst := some 19, op := Op.binOp BinOp.add 9 (Operand.tmp 12) (Operand.tmp 18) 9, type := 9, pos := "print.go:55", after := #[{ on := 2, ground := Ground.data }, { on := 8, ground := Ground.data }], guard := none }) rfl (fun K hK => ?_) Until.AllU.nil)
          go_simp
          try rw [hfin.out]
          refine hK.out _ _ (hY2) (fun _ => trivial) ?_
          clear hK K
          try simp only [Act.put, List.setIfInBounds_toArray, List.set_cons_zero, List.set_cons_succ]
          refine Until.wpU_ready (rs := [10]) (by kernel_rfl) (by simp) ?_
          refine (Until.AllU.cons (o := { dst := some 2, op := Op.assign (Operand.tmp 19), type := 9, pos := "print.go:55", after := #[{ on := 9, ground := Ground.data }, { on := 2, ground := Ground.chain }, { on := 0, ground := Ground.phase }, { on := 1, ground := Ground.phase }, { on := 2, ground := Ground.phase }, { on := 3, ground := Ground.phase }, { on := 4, ground := Ground.phase }, { on := 5, ground := Ground.phase }, { on := 6, ground := Ground.phase }, { on := 7, ground := Ground.phase }, { on := 8, ground := Ground.phase }, { on := 9, ground := Ground.phase }], guard := none }) rfl (fun K hK => ?_) Until.AllU.nil)
          go_simp
          refine hK.out _ _ (hY2) (fun _ => trivial) ?_
          clear hK K
          try simp only [Act.put, List.setIfInBounds_toArray, List.set_cons_zero, List.set_cons_succ]
          refine Until.wpU_done (by kernel_rfl) ?_ _
          refine NoPanic.normal ?_
          go_wp2_with fail
          go_ret
          exact ⟨rfl, hY2⟩
        · have hcv := conv_byte (48 + (r : Int)) cb hct (X.alloc (.cells #[.int .u8 (48 + (r : Int))] 5)) X.heap.size hbk
          go_simp
          clear hcv
          refine hK.out _ _ (hY1) (fun _ => trivial) ?_
          clear hK K
          try simp only [Act.put, List.setIfInBounds_toArray, List.set_cons_zero, List.set_cons_succ]
          refine Until.wpU_ready (rs := [2]) (by kernel_rfl) (by simp) ?_
          refine (Until.AllU.cons (o := { dst := some 12, op := Op.call { callee := Callee.value (Operand.func 50), args := #[Operand.tmp 11], argTypes := #[77] }, type := 9, pos := "print.go:55", after := #[{ on := 1, ground := Ground.data }], guard := none }) rfl (fun K hK => ?_) Until.AllU.nil)
          go_simp
          refine (ih q hqn.out.1 hqn.out.2 _).mono ?_
          rintro e Y2 ⟨rfl, hcb⟩
          have hY2 : Below w.heap.size w Y2 := hY1.trans (hcb.mono hY1.size)
          refine hK.out _ _ (hY2) (fun _ => trivial) ?_
          clear hK K
          try simp only [Act.put, List.setIfInBounds_toArray, List.set_cons_zero, List.set_cons_succ]
          refine Until.wpU_ready (rs := [9]) (by kernel_rfl) (by simp) ?_
          refine (Until.AllU.cons (o := { dst := some 19, op := Op.binOp BinOp.add 9 (Operand.tmp 12) (Operand.tmp 18) 9, type := 9, pos := "print.go:55", after := #[{ on := 2, ground := Ground.data }, { on := 8, ground := Ground.data }], guard := none }) rfl (fun K hK => ?_) Until.AllU.nil)
          go_simp
          try rw [hfin.out]
          refine hK.out _ _ (hY2) (fun _ => trivial) ?_
          clear hK K
          try simp only [Act.put, List.setIfInBounds_toArray, List.set_cons_zero, List.set_cons_succ]
          refine Until.wpU_ready (rs := [10]) (by kernel_rfl) (by simp) ?_
          refine (Until.AllU.cons (o := { dst := some 2, op := Op.assign (Operand.tmp 19), type := 9, pos := "print.go:55", after := #[{ on := 9, ground := Ground.data }, { on := 2, ground := Ground.chain }, { on := 0, ground := Ground.phase }, { on := 1, ground := Ground.phase }, { on := 2, ground := Ground.phase }, { on := 3, ground := Ground.phase }, { on := 4, ground := Ground.phase }, { on := 5, ground := Ground.phase }, { on := 6, ground := Ground.phase }, { on := 7, ground := Ground.phase }, { on := 8, ground := Ground.phase }, { on := 9, ground := Ground.phase }], guard := none }) rfl (fun K hK => ?_) Until.AllU.nil)
          go_simp
          refine hK.out _ _ (hY2) (fun _ => trivial) ?_
          clear hK K
          try simp only [Act.put, List.setIfInBounds_toArray, List.set_cons_zero, List.set_cons_succ]
          refine Until.wpU_done (by kernel_rfl) ?_ _
          refine NoPanic.normal ?_
          go_wp2_with fail
          go_ret
          exact ⟨rfl, hY2⟩
set_option maxHeartbeats 2000000 in
theorem digits_code (x : Int) (h0 : -9223372036854775808 ≤ x) (h1 : x ≤ 9223372036854775807) (w : World) : Calls Tryz.prog 36 #[.int .i64 x] w fun e w' => e = .returned (.string ⟨(Lib.itoa x).toArray⟩) ∧ Below w.heap.size w w' := by
  unfold Lib.itoa
  by_cases h : x < 0
  · rw [if_pos h]
    obtain ⟨m, hm⟩ : ∃ m, Hid (x.natAbs = m) := ⟨_, hid_e rfl⟩
    rw [hm.out]
    have hmx : (m : Int) = -x := by rw [← hm.out]; omega
    have hw1 : IntKind.i64.wrap (x + 1) = x + 1 := by rw [IntKind.wrap_i64]; omega
    have hw2 : IntKind.i64.wrap (-(x + 1)) = -(x + 1) := by rw [IntKind.wrap_i64]; omega
    have hw3 : IntKind.u64.wrap (-(x + 1)) = -(x + 1) := u64_in (by omega) (by omega)
    have hw4 : IntKind.u64.wrap (-(x + 1) + 1) = (m : Int) := by rw [u64_in (by omega) (by omega)]; omega
    have hfin : Hid ((⟨#[45]⟩ : ByteArray) ++ ⟨(Lib.decDigits m).toArray⟩ = ⟨(45 :: Lib.decDigits m).toArray⟩) := by
      apply ByteArray.ext
      rw [ByteArray.data_append]
      simp
    have hcall := hid_e (natural_code m (by omega) w)
    rw [hmx] at hcall
    have hds : ¬ (9223372036854775807 < (Lib.decDigits m).length + 1) := by have := dec_short (n := m) (by omega); omega
    have hds2 : ¬ (9223372036854775807 < 1 + (Lib.decDigits m).length) := by omega
    go_enter Tryz.func36, Tryz.ntmps36
    go_wp2_with fail
    go_fit hcall.out
    rintro e w1 ⟨rfl, hb⟩
    go_wp2_with fail
    go_ret
    exact ⟨by first | rfl | (rw [hfin.out]), hb⟩
  · rw [if_neg h]
    obtain ⟨m, hm⟩ : ∃ m, Hid (x.toNat = m) := ⟨_, hid_e rfl⟩
    rw [hm.out]
    have hmx : x = (m : Int) := by rw [← hm.out]; omega
    subst hmx
    have hw3 : IntKind.u64.wrap (m : Int) = (m : Int) := u64_in (by omega) (by omega)
    have hcall := hid_e (natural_code m (by omega) w)
    go_enter Tryz.func36, Tryz.ntmps36
    go_wp2_with fail
    go_fit hcall.out
    rintro e w1 ⟨rfl, hb⟩
    go_wp2_with fail
    go_ret
    exact ⟨rfl, hb⟩
end Go.Proofs.YtjhefkojfojjdaaGreatDoor.Tree
