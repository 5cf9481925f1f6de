import Derived.Test.YtnccaidlcaeeaaaGreatDoorS5
import Derived.Deep.RegionHeld3
import Derived.Deep.AppendLies
import Derived.Test.YtnccaidlcaeeaaaGreatDoorU1
namespace Go.Proofs.YtnccaidlcaeeaaaGreatDoor
open Go Go.RowKit Go.Maps

def VPost (b : Nat) (T : ByteArray) (n : Nat) (w : World) (e : Ending) (w' : World) : Res J → Prop
  | .ok j n' => ∃ (kd x : Int) (s : ByteArray) (a1 : Option Addr) (l1 c1 : Nat) (a2 : Option Addr) (l2 c2 : Nat), e = .returned (.agg #[.int .i64 kd, .int .i64 x, .string s, .slice a1 l1 c1, .slice a2 l2 c2]) ∧
      Rep w' w.heap.size w'.heap.size j (five kd x s (.slice a1 l1 c1) (.slice a2 l2 c2)) ∧ At b T n' w' ∧ Kp b w w' ∧ n < n' ∧ n' ≤ T.size
  | .bad er p => e = .panicked (faultC er p) ∧ Kp b w w'
/-- The reader of values, with k lists more allowed within one another, does as valR says. -/
def ValOk (T : ByteArray) (tx : Nat → Res ByteArray) (k : Nat) : Prop :=
  ∀ (b n : Nat) (d : Int) (w : World), At b T n w → Env w → 8 ≤ b → n ≤ T.size → d + k = 64 → Calls Tryz.prog 42 #[.pointer (some ⟨b, 0, none⟩), .int .i64 d] w fun e w' => VPost b T n w e w' (valR T tx k n)

theorem wrap_small (x : Int) (h0 : 0 ≤ x) (h1 : x ≤ 1000) : IntKind.i64.wrap x = x := by
  rw [IntKind.wrap_i64]; omega
theorem cell_set_far (X : World) (g o o' h : Nat) (v : Value) (hne : h ≠ g) : (X.setCell ⟨g, o, none⟩ v).cell? ⟨h, o', none⟩ = X.cell? ⟨h, o', none⟩ :=
  World.cell?_of_block (w := X) (Below.heap_setCell _ _ _ _ hne)
theorem frozen_set_far (X : World) (g o o' h : Nat) (v : Value) (hne : h ≠ g) : (X.setCell ⟨g, o, none⟩ v).frozen? ⟨h, o', none⟩ = X.frozen? ⟨h, o', none⟩ :=
  World.frozen?_of_block (w := X) (Below.heap_setCell _ _ _ _ hne)
theorem zer_at (xs : List Value) (p i : Nat) (h : xs.length = p * 5) (hi : i < 5) : (xs ++ zer)[p * 5 + i]? = zer[i]? := by
  rw [List.getElem?_append_right (by omega)]; congr 1; omega
theorem info28 : (Tryz.prog.info? 25).map (fun i => (i.zero, i.size, i.bytes)) = some (some (.agg #[.int .i64 0, .int .i64 0, .string noS, nilS, nilS]), 5, 80) := by kernel_rfl
theorem Env.alloc {w : World} (h : Env w) (o : Obj) : Env (w.alloc o) := by
  have hsz := h.size
  obtain ⟨⟨t1, p1, h1⟩, ⟨t2, p2, h2⟩, hu⟩ := h
  have key : ∀ k v, w.cell? ⟨k, 0, none⟩ = some v → (w.alloc o).cell? ⟨k, 0, none⟩ = some v := by
    intro k v hv
    rw [World.cell?_of_block (w := w) (Below.heap_alloc _ _ _ ?_)]
    · exact hv
    · unfold World.cell? at hv
      split at hv
      · next hx => exact (Array.getElem?_eq_some_iff.1 hx).1
      · cases hv
  have hold : ∀ k, k < 6 → (w.alloc o).heap[k]? = w.heap[k]? := fun k hk => Below.heap_alloc w o k (by omega)
  exact ⟨⟨t1, p1, key _ _ h1⟩, ⟨t2, p2, key _ _ h2⟩, ⟨fun c hc => (World.cell?_of_block (w := w) (hold 1 (by omega))).trans (hu.1 c hc), fun i hi => ⟨(World.cell?_of_block (w := w) (hold 2 (by omega))).trans (hu.2 i hi).1, (World.cell?_of_block (w := w) (hold 2 (by omega))).trans (hu.2 i hi).2⟩⟩⟩

set_option maxHeartbeats 2000000 in
theorem list1_walk (base b bv br bd n k : Nat) (d : Int) (T : ByteArray) (tx : Nat → Res ByteArray) (hV : ValOk T tx k) (hd0 : 0 ≤ d) (hd : d + 1 + k = 64) (l : List J) (w0 wI w : World) (hI : ListInv base b bv br bd d w0 wI l w) (hA : At b T n w) (hn : n ≤ T.size) (hT : T.size ≤ 65536) (hlen : l.length ≤ n) (hb8 : 8 ≤ b) (hbne : b ≠ bv ∧ b ≠ br ∧ b ≠ bd) (hdis : br ≠ bv ∧ bd ≠ bv) (j : J) (n' : Nat) (HR : Hid (valR T tx k n = .ok j n')) :
    Calls Tryz.prog 88 #[.pointer (some ⟨bv, 0, none⟩), .pointer (some ⟨br, 0, none⟩), .pointer (some ⟨bd, 0, none⟩)] w fun e w' => e = .returned (.tuple #[]) ∧ ListInv base b bv br bd d w0 wI (l ++ [j]) w' ∧ At b T n' w' ∧ n < n' ∧ n' ≤ T.size := by
  obtain ⟨hE, hK, hb0, hba, hfx, ⟨lo1, lo2, lo3, lo4, lo5, lo6⟩, hbr, hbd, ao, cap, xs, hbv, hown, hne0, hrep⟩ := hI
  have hne : ∀ g, (Value.slice ao l.length cap).ownBlock = some g → g ≠ bv ∧ g ≠ br ∧ g ≠ bd ∧ g ≠ b := fun g hg => by simpa using hne0 g hg
  have c4 : w.cell? ⟨bv, 4, none⟩ = some (.slice ao l.length cap) := cell_of hbv 4
  have cr : w.cell? ⟨br, 0, none⟩ = some (.pointer (some ⟨b, 0, none⟩)) := cell_of hbr 0
  have cd : w.cell? ⟨bd, 0, none⟩ = some (.int .i64 d) := cell_of hbd 0
  have dk : d ≤ 64 := by omega
  have hbl := hA.lt
  have hd2 : d + 1 ≤ 64 := by omega
  have hwr0 : IntKind.i64.wrap (d + 1) = d + 1 := wrap_small _ (by omega) (by omega)
  have HW : Hid (IntKind.i64.wrap (d + 1) = d + 1) := hwr0
  clear hwr0
  have HD : Hid (d + 1 + k = 64) := hd
  clear hd
  go_enter Tryz.func88, Tryz.ntmps88
  go_wp2
  obtain ⟨i0, hi, hz0, hz1, hz2⟩ := info_parts info28
  refine wp_region_noPanic ?_
  refine Until.wp_region_U (fun w' => w'.cell? ⟨br, 0, none⟩ = some (.pointer (some ⟨b, 0, none⟩)) ∧ w'.cell? ⟨bd, 0, none⟩ = some (.int .i64 d)) (fun w' => w'.cell? ⟨bv, 4, none⟩ = some (.slice ao l.length cap)) 8 (by kernel_rfl) ?_
  refine Until.wpU_pure (i := 0) (oi := { dst := some 3, op := Op.fieldAddr 25 (Operand.tmp 0) 4, type := 0, pos := "read.go:138", after := #[], guard := none }) (v := .pointer (some ⟨bv, 4, none⟩)) rfl (by kernel_rfl) (by kernel_rfl) (by kernel_rfl) (by kernel_rfl) (by kernel_rfl) (fun _ _ _ h => h) (⟨cr, cd⟩) (fun _ => c4) (by rfl) (by intro w'; go_simp) ?_
  try simp only [Act.put, List.setIfInBounds_toArray, List.set_cons_zero, List.set_cons_succ]
  refine Until.wpU_load1 (i := 1) (oi := { dst := some 4, op := Op.load 23 (Operand.tmp 3), type := 23, pos := "read.go:138", after := #[{ on := 0, ground := Ground.data }], guard := none }) (v := .slice ao l.length cap) rfl (by kernel_rfl) (by kernel_rfl) (by kernel_rfl) (by kernel_rfl) (by kernel_rfl) (by kernel_rfl) (fun _ _ _ h => h) (⟨cr, cd⟩) (c4) (by rfl) (by intro w' hw'; (try dsimp only at hw'); go_simp) ?_
  try simp only [Act.put, List.setIfInBounds_toArray, List.set_cons_zero, List.set_cons_succ]
  refine Until.wpU_load0 (i := 2) (oi := { dst := some 5, op := Op.load 72 (Operand.tmp 1), type := 72, pos := "read.go:138", after := #[], guard := none }) (v := .pointer (some ⟨b, 0, none⟩)) rfl (by kernel_rfl) (by kernel_rfl) (by kernel_rfl) (by kernel_rfl) (by kernel_rfl) (fun _ _ _ h => h) (⟨cr, cd⟩) (fun _ => c4) (by rfl) (by intro w' hw'; (try dsimp only at hw'); go_simp) ?_
  try simp only [Act.put, List.setIfInBounds_toArray, List.set_cons_zero, List.set_cons_succ]
  refine Until.wpU_load0 (i := 3) (oi := { dst := some 6, op := Op.load 3 (Operand.tmp 2), type := 3, pos := "read.go:138", after := #[], guard := none }) (v := .int .i64 d) rfl (by kernel_rfl) (by kernel_rfl) (by kernel_rfl) (by kernel_rfl) (by kernel_rfl) (fun _ _ _ h => h) (⟨cr, cd⟩) (fun _ => c4) (by rfl) (by intro w' hw'; (try dsimp only at hw'); go_simp) ?_
  try simp only [Act.put, List.setIfInBounds_toArray, List.set_cons_zero, List.set_cons_succ]
  refine Until.wpU_pure (i := 4) (oi := { dst := some 7, op := Op.binOp BinOp.add 3 (Operand.tmp 6) (Operand.const (Value.int IntKind.i64 1)) 3, type := 3, pos := "read.go:138", after := #[{ on := 3, ground := Ground.data }], guard := none }) (v := .int .i64 (d + 1)) rfl (by kernel_rfl) (by kernel_rfl) (by kernel_rfl) (by kernel_rfl) (by kernel_rfl) (fun _ _ _ h => h) (⟨cr, cd⟩) (fun _ => c4) (by rfl) (by intro w'; go_simp; rw [HW.out]) ?_
  try simp only [Act.put, List.setIfInBounds_toArray, List.set_cons_zero, List.set_cons_succ]
  refine Until.wpU_pure (i := 6) (oi := { dst := some 9, op := Op.call { callee := Callee.builtin Builtin.len, args := #[Operand.tmp 4], argTypes := #[23] }, type := 3, pos := "read.go:138", after := #[{ on := 1, ground := Ground.data }], guard := none }) (v := .int .i64 (l.length : Int)) rfl (by kernel_rfl) (by kernel_rfl) (by kernel_rfl) (by kernel_rfl) (by kernel_rfl) (fun _ _ _ h => h) (⟨cr, cd⟩) (fun _ => c4) (by rfl) (by intro w'; go_simp) ?_
  try simp only [Act.put, List.setIfInBounds_toArray, List.set_cons_zero, List.set_cons_succ]
  refine Until.wpU_ready (rs := [5, 7]) (by kernel_rfl) (by simp) ?_
  refine Until.AllU.cons (o := { dst := some 8, op := Op.call { callee := Callee.value (Operand.func 42), args := #[Operand.tmp 5, Operand.tmp 7], argTypes := #[72, 3] }, type := 25, pos := "read.go:138", after := #[{ on := 2, ground := Ground.data }, { on := 4, ground := Ground.data }], guard := none }) rfl (fun K hK => ?_) (Until.AllU.cons (o := { dst := some 10, op := Op.buildSlice 23 1 #[(0, Operand.const (Value.agg #[Value.int IntKind.i64 0, Value.int IntKind.i64 0, Value.string { data := #[] }, Value.slice none 0 0, Value.slice none 0 0]))], type := 23, pos := "read.go:138", after := #[], guard := none }) rfl (fun K hK => ?_) Until.AllU.nil)
  · go_simp
    refine (hV b n (d + 1) _ (hA.drew) (hE.drew) hb8 hn HD.out).mono ?_
    intro e w2 hp; rw [HR.out] at hp; obtain ⟨kd, x, s, a1, l1, c1, a2, l2, c2, rfl, hrep2, hA2, hK2, hl1, hl2⟩ := hp
    have hs2 : w.heap.size  ≤ w2.heap.size := by have := hK2.size; simpa using this
    have hold : ∀ g, g < w.heap.size → g ≠ b → w2.heap[g]? = w.heap[g]? := fun g hg hgb => (hK2.block g (by simp; omega) hgb)
    have hown2 : w2.ownsRow base 25 5 (.slice ao l.length cap) l.length xs := ownsRow_keep hown (fun g hg => hold g (ownsRow_ge hown hg).2 (hne g hg).2.2.2)
    have g4 := (World.cell?_of_block (w := w) (a := ⟨bv, 4, none⟩) (hold bv lo4 (Ne.symm hbne.1))).trans c4
    have gr := (World.cell?_of_block (w := w) (a := ⟨br, 0, none⟩) (hold br lo5 (Ne.symm hbne.2.1))).trans cr
    have gd := (World.cell?_of_block (w := w) (a := ⟨bd, 0, none⟩) (hold bd lo6 (Ne.symm hbne.2.2))).trans cd
    refine hK.out _ _ ⟨gr, gd⟩ (fun _ => g4) ?_
    clear hK K
    try simp only [Act.put, List.setIfInBounds_toArray, List.set_cons_zero, List.set_cons_succ]
    refine Until.wpU_ready (rs := [7]) (by kernel_rfl) (by simp) ?_
    refine Until.AllU.cons (o := { dst := some 10, op := Op.buildSlice 23 1 #[(0, Operand.const (Value.agg #[Value.int IntKind.i64 0, Value.int IntKind.i64 0, Value.string { data := #[] }, Value.slice none 0 0, Value.slice none 0 0]))], type := 23, pos := "read.go:138", after := #[], guard := none }) rfl (fun K hK => ?_) Until.AllU.nil
    go_simp
    refine hK.out _ _ ⟨(World.cell?_of_block (w := w2) (a := ⟨br, 0, none⟩) (Below.heap_alloc _ _ _ (show br < w2.heap.size by omega))).trans gr, (World.cell?_of_block (w := w2) (a := ⟨bd, 0, none⟩) (Below.heap_alloc _ _ _ (show bd < w2.heap.size by omega))).trans gd⟩ (fun _ => (World.cell?_of_block (w := w2) (a := ⟨bv, 4, none⟩) (Below.heap_alloc _ _ _ (show bv < w2.heap.size by omega))).trans g4) ?_
    clear hK K
    try simp only [Act.put, List.setIfInBounds_toArray, List.set_cons_zero, List.set_cons_succ]
    refine Until.wpU_ready (rs := [8]) (by kernel_rfl) (by simp) ?_
    refine Until.AllU.cons (o := { dst := some 11, op := Op.call { callee := Callee.builtin Builtin.append, args := #[Operand.tmp 4, Operand.tmp 10], argTypes := #[23, 23] }, type := 23, pos := "read.go:138", after := #[{ on := 1, ground := Ground.data }, { on := 7, ground := Ground.data }, { on := 5, ground := Ground.chain }, { on := 0, ground := Ground.phase }, { on := 1, ground := Ground.phase }, { on := 2, ground := Ground.phase }, { on := 3, ground := Ground.phase }, { on := 4, ground := Ground.phase }, { on := 5, ground := Ground.phase }, { on := 6, ground := Ground.phase }, { on := 7, ground := Ground.phase }], guard := none }) rfl (fun K hK => ?_) Until.AllU.nil
    refine step_append_lies _ (by rfl) _ _ 23 (by rfl) base 25 i0 _ 5 80 Tryz.underlying23 hi hz0 hz1 hz2 (by rfl) (by omega) _ l.length xs (by rfl) (hown2.alloc _) _ 1 1 zer (by rfl) (by rfl) (World.news_of_block (heap_alloc_new w2 _)) zer1 (by omega) (by unfold maxLen; omega) (by omega) (by simp only [World.size_alloc]; omega) _ rfl ?_
    intro g cap3 w3 hown3 hgrow3 hat3 hlt3
    have q4 := (hgrow3.cell_far ⟨bv, 4, none⟩ (by show bv < _; simp only [World.size_alloc]; omega) (fun h => (hne bv h.symm).1 rfl)).trans ((World.cell?_of_block (w := w2) (a := ⟨bv, 4, none⟩) (Below.heap_alloc _ _ _ (show bv < w2.heap.size by omega))).trans g4)
    have qr := (hgrow3.cell_far ⟨br, 0, none⟩ (by show br < _; simp only [World.size_alloc]; omega) (fun h => (hne br h.symm).2.1 rfl)).trans ((World.cell?_of_block (w := w2) (a := ⟨br, 0, none⟩) (Below.heap_alloc _ _ _ (show br < w2.heap.size by omega))).trans gr)
    have qd := (hgrow3.cell_far ⟨bd, 0, none⟩ (by show bd < _; simp only [World.size_alloc]; omega) (fun h => (hne bd h.symm).2.2.1 rfl)).trans ((World.cell?_of_block (w := w2) (a := ⟨bd, 0, none⟩) (Below.heap_alloc _ _ _ (show bd < w2.heap.size by omega))).trans gd)
    have hxl : xs.length = l.length * 5 := hown.1
    have e0 : w3.cell? ⟨g, l.length * 5, none⟩ = some (.int .i64 0) := (hown3.cellAt (l.length * 5) (by omega)).trans (zer_at xs _ 0 hxl (by omega))
    have e1 : w3.cell? ⟨g, l.length * 5 + 1, none⟩ = some (.int .i64 0) := (hown3.cellAt (l.length * 5 + 1) (by omega)).trans (zer_at xs _ 1 hxl (by omega))
    have e2 : w3.cell? ⟨g, l.length * 5 + 2, none⟩ = some (.string noS) := (hown3.cellAt (l.length * 5 + 2) (by omega)).trans (zer_at xs _ 2 hxl (by omega))
    have e3 : w3.cell? ⟨g, l.length * 5 + 3, none⟩ = some nilS := (hown3.cellAt (l.length * 5 + 3) (by omega)).trans (zer_at xs _ 3 hxl (by omega))
    have e4 : w3.cell? ⟨g, l.length * 5 + 4, none⟩ = some nilS := (hown3.cellAt (l.length * 5 + 4) (by omega)).trans (zer_at xs _ 4 hxl (by omega))
    have ef := fun jj => hown3.frozenAt jj
    have hgne : g ≠ bv ∧ g ≠ br ∧ g ≠ bd ∧ g ≠ b := hat3.elim (fun h => hne g h) (fun h => by simp only [World.size_alloc] at h; omega)
    have HX : Hid (xs.length = l.length * 5) := hxl
    clear hxl
    have hgbv : bv ≠ g := Ne.symm hgne.1
    have hbv3 : w3.heap[bv]? = w.heap[bv]? := (hgrow3.block bv (by simp only [World.size_alloc]; omega) (fun h => (hne bv h.symm).1 rfl)).trans ((Below.heap_alloc w2 _ bv (by omega)).trans (hold bv lo4 (Ne.symm hbne.1)))
    have qf := frozen_of (hbv3.trans hbv) 4
    have sb1 := fun (X : World) (o : Nat) (v : Value) => cell_set_far X g o 4 bv v hgbv
    have sb2 := fun (X : World) (o : Nat) (v : Value) => frozen_set_far X g o 4 bv v hgbv
    have sb3 := fun (X : World) (o : Nat) (v : Value) => cell_set_far X bv 4 o g v hgne.1
    have sb4 := fun (X : World) (o : Nat) (v : Value) => frozen_set_far X bv 4 o g v hgne.1
    have HB : Hid (w3.heap[bv]? = w.heap[bv]?) := hbv3
    clear hbv3
    have ib1 : (0 : Int) ≤ (l.length : Int) := by omega
    have ib2 : (l.length : Int) < ((l.length + 1 : Nat) : Int) := by omega
    have ib3 : (l.length : Int) < (l.length : Int) + 1 := by omega
    refine hK.out _ _ ⟨qr, qd⟩ (fun h => absurd h (by decide)) ?_
    clear hK K
    try simp only [Act.put, List.setIfInBounds_toArray, List.set_cons_zero, List.set_cons_succ]
    refine Until.wpU_pure (i := 9) (oi := { dst := some 12, op := Op.indexAddr 23 (Operand.tmp 11) (Operand.tmp 9), type := 0, pos := "read.go:138", after := #[{ on := 8, ground := Ground.data }, { on := 6, ground := Ground.data }, { on := 0, ground := Ground.phase }, { on := 1, ground := Ground.phase }, { on := 2, ground := Ground.phase }, { on := 3, ground := Ground.phase }, { on := 4, ground := Ground.phase }, { on := 5, ground := Ground.phase }, { on := 6, ground := Ground.phase }, { on := 7, ground := Ground.phase }, { on := 8, ground := Ground.phase }, { on := 12, ground := Ground.gcOnly Departure.appendInPlace }], guard := none }) (v := .pointer (some ⟨g, l.length * 5, none⟩)) rfl (by kernel_rfl) (by kernel_rfl) (by kernel_rfl) (by kernel_rfl) (by kernel_rfl) (fun _ _ _ h => h) (⟨qr, qd⟩) (fun h => absurd h (by decide)) (by rfl) (by intro w'; go_simp) ?_
    try simp only [Act.put, List.setIfInBounds_toArray, List.set_cons_zero, List.set_cons_succ]
    refine Until.wpU_pure (i := 11) (oi := { dst := some 13, op := Op.fieldAddr 25 (Operand.tmp 0) 4, type := 0, pos := "read.go:138", after := #[{ on := 0, ground := Ground.phase }, { on := 1, ground := Ground.phase }, { on := 2, ground := Ground.phase }, { on := 3, ground := Ground.phase }, { on := 4, ground := Ground.phase }, { on := 5, ground := Ground.phase }, { on := 6, ground := Ground.phase }, { on := 7, ground := Ground.phase }, { on := 8, ground := Ground.phase }, { on := 9, ground := Ground.textOnly Departure.appendInPlace }, { on := 10, ground := Ground.textOnly Departure.appendInPlace }], guard := none }) (v := .pointer (some ⟨bv, 4, none⟩)) rfl (by kernel_rfl) (by kernel_rfl) (by kernel_rfl) (by kernel_rfl) (by kernel_rfl) (fun _ _ _ h => h) (⟨qr, qd⟩) (fun h => absurd h (by decide)) (by rfl) (by intro w'; go_simp) ?_
    try simp only [Act.put, List.setIfInBounds_toArray, List.set_cons_zero, List.set_cons_succ]
    refine Until.wpU_ready (rs := [10, 12]) (by kernel_rfl) (by simp) ?_
    refine Until.AllU.cons (o := { dst := none, op := Op.store 25 (Operand.tmp 12) (Operand.tmp 8), type := 0, pos := "read.go:138", after := #[{ on := 9, ground := Ground.data }, { on := 5, ground := Ground.data }, { on := 8, ground := Ground.chain }, { on := 0, ground := Ground.phase }, { on := 1, ground := Ground.phase }, { on := 2, ground := Ground.phase }, { on := 3, ground := Ground.phase }, { on := 4, ground := Ground.phase }, { on := 5, ground := Ground.phase }, { on := 6, ground := Ground.phase }, { on := 7, ground := Ground.phase }, { on := 8, ground := Ground.phase }, { on := 12, ground := Ground.gcOnly Departure.appendInPlace }], guard := none }) rfl (fun K hK => ?_) (Until.AllU.cons (o := { dst := none, op := Op.store 23 (Operand.tmp 13) (Operand.tmp 11), type := 0, pos := "read.go:138", after := #[{ on := 11, ground := Ground.data }, { on := 8, ground := Ground.data }, { on := 8, ground := Ground.chain }, { on := 10, ground := Ground.textOnly Departure.appendInPlace }, { on := 0, ground := Ground.phase }, { on := 1, ground := Ground.phase }, { on := 2, ground := Ground.phase }, { on := 3, ground := Ground.phase }, { on := 4, ground := Ground.phase }, { on := 5, ground := Ground.phase }, { on := 6, ground := Ground.phase }, { on := 7, ground := Ground.phase }, { on := 8, ground := Ground.phase }, { on := 9, ground := Ground.textOnly Departure.appendInPlace }, { on := 10, ground := Ground.textOnly Departure.appendInPlace }], guard := none }) rfl (fun K hK => ?_) Until.AllU.nil)
    · go_simp
      refine hK.out _ _ ⟨by simp only [cell_set_far _ _ _ _ _ _ (Ne.symm hgne.2.1)]; exact qr, by simp only [cell_set_far _ _ _ _ _ _ (Ne.symm hgne.2.2.1)]; exact qd⟩ (fun h => absurd h (by decide)) ?_
      clear hK K
      try simp only [Act.put, List.setIfInBounds_toArray, List.set_cons_zero, List.set_cons_succ]
      refine Until.wpU_ready (rs := [12]) (by kernel_rfl) (by simp) ?_
      refine Until.AllU.cons (o := { dst := none, op := Op.store 23 (Operand.tmp 13) (Operand.tmp 11), type := 0, pos := "read.go:138", after := #[{ on := 11, ground := Ground.data }, { on := 8, ground := Ground.data }, { on := 8, ground := Ground.chain }, { on := 10, ground := Ground.textOnly Departure.appendInPlace }, { on := 0, ground := Ground.phase }, { on := 1, ground := Ground.phase }, { on := 2, ground := Ground.phase }, { on := 3, ground := Ground.phase }, { on := 4, ground := Ground.phase }, { on := 5, ground := Ground.phase }, { on := 6, ground := Ground.phase }, { on := 7, ground := Ground.phase }, { on := 8, ground := Ground.phase }, { on := 9, ground := Ground.textOnly Departure.appendInPlace }, { on := 10, ground := Ground.textOnly Departure.appendInPlace }], guard := none }) rfl (fun K hK => ?_) Until.AllU.nil
      go_simp
      refine hK.out _ _ ⟨by simp only [cell_set_far _ _ _ _ _ _ (Ne.symm hgne.2.1), cell_set_far _ _ _ _ _ _ hdis.1]; exact qr, by simp only [cell_set_far _ _ _ _ _ _ (Ne.symm hgne.2.2.1), cell_set_far _ _ _ _ _ _ hdis.2]; exact qd⟩ (fun h => absurd h (by decide)) ?_
      clear hK K
      try simp only [Act.put, List.setIfInBounds_toArray, List.set_cons_zero, List.set_cons_succ]
      refine Until.wpU_done (by kernel_rfl) ?_ _
      refine NoPanic.normal ?_
      go_wp2
      go_end0
      obtain ⟨f1, f2, f3, f4, f5, f6, f7⟩ := items_fin (T := T) (n' := n') (X := w2.alloc _) (loJ := w.heap.size) hba.2 (by omega) (by intro k hk; simp at hk; omega) (by simp) (by simp) hbne.1 hbv hown hne0 hrep hA2 hrep2 (by omega) (by omega) (fun k hk hkb => (Below.heap_alloc w2 _ k (by omega)).trans (hold k hk hkb)) (by simp) (fun k hk => Below.heap_alloc w2 _ k hk) hK2.os hK2.tape hK2.output hgrow3 hat3 hown3 (Or.inl rfl)
      exact ⟨rfl, list_close hE hK hb0 hba hfx hb8 ⟨lo1, lo2, lo3, lo4, lo5, lo6⟩ hdis hbr hbd (fun g hg => (ownsRow_ge hown hg).1) hne f1 f3 f4 f5 f6 f7, f2, hl1, hl2⟩
    · go_simp
      refine hK.out _ _ ⟨by rw [cell_set_far _ _ _ _ _ _ hdis.1]; exact qr, by rw [cell_set_far _ _ _ _ _ _ hdis.2]; exact qd⟩ (fun h => absurd h (by decide)) ?_
      clear hK K
      try simp only [Act.put, List.setIfInBounds_toArray, List.set_cons_zero, List.set_cons_succ]
      refine Until.wpU_ready (rs := [10]) (by kernel_rfl) (by simp) ?_
      refine Until.AllU.cons (o := { dst := none, op := Op.store 25 (Operand.tmp 12) (Operand.tmp 8), type := 0, pos := "read.go:138", after := #[{ on := 9, ground := Ground.data }, { on := 5, ground := Ground.data }, { on := 8, ground := Ground.chain }, { on := 0, ground := Ground.phase }, { on := 1, ground := Ground.phase }, { on := 2, ground := Ground.phase }, { on := 3, ground := Ground.phase }, { on := 4, ground := Ground.phase }, { on := 5, ground := Ground.phase }, { on := 6, ground := Ground.phase }, { on := 7, ground := Ground.phase }, { on := 8, ground := Ground.phase }, { on := 12, ground := Ground.gcOnly Departure.appendInPlace }], guard := none }) rfl (fun K hK => ?_) Until.AllU.nil
      go_simp
      refine hK.out _ _ ⟨by simp only [cell_set_far _ _ _ _ _ _ (Ne.symm hgne.2.1), cell_set_far _ _ _ _ _ _ hdis.1]; exact qr, by simp only [cell_set_far _ _ _ _ _ _ (Ne.symm hgne.2.2.1), cell_set_far _ _ _ _ _ _ hdis.2]; exact qd⟩ (fun h => absurd h (by decide)) ?_
      clear hK K
      try simp only [Act.put, List.setIfInBounds_toArray, List.set_cons_zero, List.set_cons_succ]
      refine Until.wpU_done (by kernel_rfl) ?_ _
      refine NoPanic.normal ?_
      go_wp2
      go_end0
      obtain ⟨f1, f2, f3, f4, f5, f6, f7⟩ := items_fin (T := T) (n' := n') (X := w2.alloc _) (loJ := w.heap.size) hba.2 (by omega) (by intro k hk; simp at hk; omega) (by simp) (by simp) hbne.1 hbv hown hne0 hrep hA2 hrep2 (by omega) (by omega) (fun k hk hkb => (Below.heap_alloc w2 _ k (by omega)).trans (hold k hk hkb)) (by simp) (fun k hk => Below.heap_alloc w2 _ k hk) hK2.os hK2.tape hK2.output hgrow3 hat3 hown3 (Or.inr rfl)
      exact ⟨rfl, list_close hE hK hb0 hba hfx hb8 ⟨lo1, lo2, lo3, lo4, lo5, lo6⟩ hdis hbr hbd (fun g hg => (ownsRow_ge hown hg).1) hne f1 f3 f4 f5 f6 f7, f2, hl1, hl2⟩
  · go_simp
    refine hK.out _ _ ⟨(World.cell?_of_block (w := w) (a := ⟨br, 0, none⟩) (Below.heap_alloc _ _ _ lo5)).trans cr, (World.cell?_of_block (w := w) (a := ⟨bd, 0, none⟩) (Below.heap_alloc _ _ _ lo6)).trans cd⟩ (fun _ => (World.cell?_of_block (w := w) (a := ⟨bv, 4, none⟩) (Below.heap_alloc _ _ _ lo4)).trans c4) ?_
    clear hK K
    try simp only [Act.put, List.setIfInBounds_toArray, List.set_cons_zero, List.set_cons_succ]
    refine Until.wpU_ready (rs := [5]) (by kernel_rfl) (by simp) ?_
    refine Until.AllU.cons (o := { dst := some 8, op := Op.call { callee := Callee.value (Operand.func 42), args := #[Operand.tmp 5, Operand.tmp 7], argTypes := #[72, 3] }, type := 25, pos := "read.go:138", after := #[{ on := 2, ground := Ground.data }, { on := 4, ground := Ground.data }], guard := none }) rfl (fun K hK => ?_) Until.AllU.nil
    go_simp
    refine (hV b n (d + 1) _ ((hA.alloc _).drew) ((hE.alloc _).drew) hb8 hn HD.out).mono ?_
    intro e w2 hp; rw [HR.out] at hp; obtain ⟨kd, x, s, a1, l1, c1, a2, l2, c2, rfl, hrep2, hA2, hK2, hl1, hl2⟩ := hp
    have hs2 : w.heap.size + 1 ≤ w2.heap.size := by have := hK2.size; simpa using this
    have hold : ∀ g, g < w.heap.size → g ≠ b → w2.heap[g]? = w.heap[g]? := fun g hg hgb => (hK2.block g (by simp; omega) hgb).trans (Below.heap_alloc _ _ _ hg)
    have hown2 : w2.ownsRow base 25 5 (.slice ao l.length cap) l.length xs := ownsRow_keep hown (fun g hg => hold g (ownsRow_ge hown hg).2 (hne g hg).2.2.2)
    have g4 := (World.cell?_of_block (w := w) (a := ⟨bv, 4, none⟩) (hold bv lo4 (Ne.symm hbne.1))).trans c4
    have gr := (World.cell?_of_block (w := w) (a := ⟨br, 0, none⟩) (hold br lo5 (Ne.symm hbne.2.1))).trans cr
    have gd := (World.cell?_of_block (w := w) (a := ⟨bd, 0, none⟩) (hold bd lo6 (Ne.symm hbne.2.2))).trans cd
    refine hK.out _ _ ⟨gr, gd⟩ (fun _ => g4) ?_
    clear hK K
    try simp only [Act.put, List.setIfInBounds_toArray, List.set_cons_zero, List.set_cons_succ]
    refine Until.wpU_ready (rs := [8]) (by kernel_rfl) (by simp) ?_
    refine Until.AllU.cons (o := { dst := some 11, op := Op.call { callee := Callee.builtin Builtin.append, args := #[Operand.tmp 4, Operand.tmp 10], argTypes := #[23, 23] }, type := 23, pos := "read.go:138", after := #[{ on := 1, ground := Ground.data }, { on := 7, ground := Ground.data }, { on := 5, ground := Ground.chain }, { on := 0, ground := Ground.phase }, { on := 1, ground := Ground.phase }, { on := 2, ground := Ground.phase }, { on := 3, ground := Ground.phase }, { on := 4, ground := Ground.phase }, { on := 5, ground := Ground.phase }, { on := 6, ground := Ground.phase }, { on := 7, ground := Ground.phase }], guard := none }) rfl (fun K hK => ?_) Until.AllU.nil
    refine step_append_lies _ (by rfl) _ _ 23 (by rfl) base 25 i0 _ 5 80 Tryz.underlying23 hi hz0 hz1 hz2 (by rfl) (by omega) _ l.length xs (by rfl) (hown2) _ 1 1 zer (by rfl) (by rfl) (World.news_of_block ((hK2.block w.heap.size (by simp) (by omega)).trans (heap_alloc_new w _))) zer1 (by omega) (by unfold maxLen; omega) (by omega) (by omega) _ rfl ?_
    intro g cap3 w3 hown3 hgrow3 hat3 hlt3
    have q4 := (hgrow3.cell_far ⟨bv, 4, none⟩ (by show bv < _; omega) (fun h => (hne bv h.symm).1 rfl)).trans g4
    have qr := (hgrow3.cell_far ⟨br, 0, none⟩ (by show br < _; omega) (fun h => (hne br h.symm).2.1 rfl)).trans gr
    have qd := (hgrow3.cell_far ⟨bd, 0, none⟩ (by show bd < _; omega) (fun h => (hne bd h.symm).2.2.1 rfl)).trans gd
    have hxl : xs.length = l.length * 5 := hown.1
    have e0 : w3.cell? ⟨g, l.length * 5, none⟩ = some (.int .i64 0) := (hown3.cellAt (l.length * 5) (by omega)).trans (zer_at xs _ 0 hxl (by omega))
    have e1 : w3.cell? ⟨g, l.length * 5 + 1, none⟩ = some (.int .i64 0) := (hown3.cellAt (l.length * 5 + 1) (by omega)).trans (zer_at xs _ 1 hxl (by omega))
    have e2 : w3.cell? ⟨g, l.length * 5 + 2, none⟩ = some (.string noS) := (hown3.cellAt (l.length * 5 + 2) (by omega)).trans (zer_at xs _ 2 hxl (by omega))
    have e3 : w3.cell? ⟨g, l.length * 5 + 3, none⟩ = some nilS := (hown3.cellAt (l.length * 5 + 3) (by omega)).trans (zer_at xs _ 3 hxl (by omega))
    have e4 : w3.cell? ⟨g, l.length * 5 + 4, none⟩ = some nilS := (hown3.cellAt (l.length * 5 + 4) (by omega)).trans (zer_at xs _ 4 hxl (by omega))
    have ef := fun jj => hown3.frozenAt jj
    have hgne : g ≠ bv ∧ g ≠ br ∧ g ≠ bd ∧ g ≠ b := hat3.elim (fun h => hne g h) (fun h => by skip; omega)
    have HX : Hid (xs.length = l.length * 5) := hxl
    clear hxl
    have hgbv : bv ≠ g := Ne.symm hgne.1
    have hbv3 : w3.heap[bv]? = w.heap[bv]? := (hgrow3.block bv (by omega) (fun h => (hne bv h.symm).1 rfl)).trans (hold bv lo4 (Ne.symm hbne.1))
    have qf := frozen_of (hbv3.trans hbv) 4
    have sb1 := fun (X : World) (o : Nat) (v : Value) => cell_set_far X g o 4 bv v hgbv
    have sb2 := fun (X : World) (o : Nat) (v : Value) => frozen_set_far X g o 4 bv v hgbv
    have sb3 := fun (X : World) (o : Nat) (v : Value) => cell_set_far X bv 4 o g v hgne.1
    have sb4 := fun (X : World) (o : Nat) (v : Value) => frozen_set_far X bv 4 o g v hgne.1
    have HB : Hid (w3.heap[bv]? = w.heap[bv]?) := hbv3
    clear hbv3
    have ib1 : (0 : Int) ≤ (l.length : Int) := by omega
    have ib2 : (l.length : Int) < ((l.length + 1 : Nat) : Int) := by omega
    have ib3 : (l.length : Int) < (l.length : Int) + 1 := by omega
    refine hK.out _ _ ⟨qr, qd⟩ (fun h => absurd h (by decide)) ?_
    clear hK K
    try simp only [Act.put, List.setIfInBounds_toArray, List.set_cons_zero, List.set_cons_succ]
    refine Until.wpU_pure (i := 9) (oi := { dst := some 12, op := Op.indexAddr 23 (Operand.tmp 11) (Operand.tmp 9), type := 0, pos := "read.go:138", after := #[{ on := 8, ground := Ground.data }, { on := 6, ground := Ground.data }, { on := 0, ground := Ground.phase }, { on := 1, ground := Ground.phase }, { on := 2, ground := Ground.phase }, { on := 3, ground := Ground.phase }, { on := 4, ground := Ground.phase }, { on := 5, ground := Ground.phase }, { on := 6, ground := Ground.phase }, { on := 7, ground := Ground.phase }, { on := 8, ground := Ground.phase }, { on := 12, ground := Ground.gcOnly Departure.appendInPlace }], guard := none }) (v := .pointer (some ⟨g, l.length * 5, none⟩)) rfl (by kernel_rfl) (by kernel_rfl) (by kernel_rfl) (by kernel_rfl) (by kernel_rfl) (fun _ _ _ h => h) (⟨qr, qd⟩) (fun h => absurd h (by decide)) (by rfl) (by intro w'; go_simp) ?_
    try simp only [Act.put, List.setIfInBounds_toArray, List.set_cons_zero, List.set_cons_succ]
    refine Until.wpU_pure (i := 11) (oi := { dst := some 13, op := Op.fieldAddr 25 (Operand.tmp 0) 4, type := 0, pos := "read.go:138", after := #[{ on := 0, ground := Ground.phase }, { on := 1, ground := Ground.phase }, { on := 2, ground := Ground.phase }, { on := 3, ground := Ground.phase }, { on := 4, ground := Ground.phase }, { on := 5, ground := Ground.phase }, { on := 6, ground := Ground.phase }, { on := 7, ground := Ground.phase }, { on := 8, ground := Ground.phase }, { on := 9, ground := Ground.textOnly Departure.appendInPlace }, { on := 10, ground := Ground.textOnly Departure.appendInPlace }], guard := none }) (v := .pointer (some ⟨bv, 4, none⟩)) rfl (by kernel_rfl) (by kernel_rfl) (by kernel_rfl) (by kernel_rfl) (by kernel_rfl) (fun _ _ _ h => h) (⟨qr, qd⟩) (fun h => absurd h (by decide)) (by rfl) (by intro w'; go_simp) ?_
    try simp only [Act.put, List.setIfInBounds_toArray, List.set_cons_zero, List.set_cons_succ]
    refine Until.wpU_ready (rs := [10, 12]) (by kernel_rfl) (by simp) ?_
    refine Until.AllU.cons (o := { dst := none, op := Op.store 25 (Operand.tmp 12) (Operand.tmp 8), type := 0, pos := "read.go:138", after := #[{ on := 9, ground := Ground.data }, { on := 5, ground := Ground.data }, { on := 8, ground := Ground.chain }, { on := 0, ground := Ground.phase }, { on := 1, ground := Ground.phase }, { on := 2, ground := Ground.phase }, { on := 3, ground := Ground.phase }, { on := 4, ground := Ground.phase }, { on := 5, ground := Ground.phase }, { on := 6, ground := Ground.phase }, { on := 7, ground := Ground.phase }, { on := 8, ground := Ground.phase }, { on := 12, ground := Ground.gcOnly Departure.appendInPlace }], guard := none }) rfl (fun K hK => ?_) (Until.AllU.cons (o := { dst := none, op := Op.store 23 (Operand.tmp 13) (Operand.tmp 11), type := 0, pos := "read.go:138", after := #[{ on := 11, ground := Ground.data }, { on := 8, ground := Ground.data }, { on := 8, ground := Ground.chain }, { on := 10, ground := Ground.textOnly Departure.appendInPlace }, { on := 0, ground := Ground.phase }, { on := 1, ground := Ground.phase }, { on := 2, ground := Ground.phase }, { on := 3, ground := Ground.phase }, { on := 4, ground := Ground.phase }, { on := 5, ground := Ground.phase }, { on := 6, ground := Ground.phase }, { on := 7, ground := Ground.phase }, { on := 8, ground := Ground.phase }, { on := 9, ground := Ground.textOnly Departure.appendInPlace }, { on := 10, ground := Ground.textOnly Departure.appendInPlace }], guard := none }) rfl (fun K hK => ?_) Until.AllU.nil)
    · go_simp
      refine hK.out _ _ ⟨by simp only [cell_set_far _ _ _ _ _ _ (Ne.symm hgne.2.1)]; exact qr, by simp only [cell_set_far _ _ _ _ _ _ (Ne.symm hgne.2.2.1)]; exact qd⟩ (fun h => absurd h (by decide)) ?_
      clear hK K
      try simp only [Act.put, List.setIfInBounds_toArray, List.set_cons_zero, List.set_cons_succ]
      refine Until.wpU_ready (rs := [12]) (by kernel_rfl) (by simp) ?_
      refine Until.AllU.cons (o := { dst := none, op := Op.store 23 (Operand.tmp 13) (Operand.tmp 11), type := 0, pos := "read.go:138", after := #[{ on := 11, ground := Ground.data }, { on := 8, ground := Ground.data }, { on := 8, ground := Ground.chain }, { on := 10, ground := Ground.textOnly Departure.appendInPlace }, { on := 0, ground := Ground.phase }, { on := 1, ground := Ground.phase }, { on := 2, ground := Ground.phase }, { on := 3, ground := Ground.phase }, { on := 4, ground := Ground.phase }, { on := 5, ground := Ground.phase }, { on := 6, ground := Ground.phase }, { on := 7, ground := Ground.phase }, { on := 8, ground := Ground.phase }, { on := 9, ground := Ground.textOnly Departure.appendInPlace }, { on := 10, ground := Ground.textOnly Departure.appendInPlace }], guard := none }) rfl (fun K hK => ?_) Until.AllU.nil
      go_simp
      refine hK.out _ _ ⟨by simp only [cell_set_far _ _ _ _ _ _ (Ne.symm hgne.2.1), cell_set_far _ _ _ _ _ _ hdis.1]; exact qr, by simp only [cell_set_far _ _ _ _ _ _ (Ne.symm hgne.2.2.1), cell_set_far _ _ _ _ _ _ hdis.2]; exact qd⟩ (fun h => absurd h (by decide)) ?_
      clear hK K
      try simp only [Act.put, List.setIfInBounds_toArray, List.set_cons_zero, List.set_cons_succ]
      refine Until.wpU_done (by kernel_rfl) ?_ _
      refine NoPanic.normal ?_
      go_wp2
      go_end0
      obtain ⟨f1, f2, f3, f4, f5, f6, f7⟩ := items_fin (T := T) (n' := n') (X := w2) (loJ := w.heap.size + 1) hba.2 (by omega) (by intro k hk; simp at hk; omega) (by simp) (by simp) hbne.1 hbv hown hne0 hrep hA2 (by simpa using hrep2) (by omega) (by omega) (hold) (Nat.le_refl _) (fun k _ => rfl) hK2.os hK2.tape hK2.output hgrow3 hat3 hown3 (Or.inl rfl)
      exact ⟨rfl, list_close hE hK hb0 hba hfx hb8 ⟨lo1, lo2, lo3, lo4, lo5, lo6⟩ hdis hbr hbd (fun g hg => (ownsRow_ge hown hg).1) hne f1 f3 f4 f5 f6 f7, f2, hl1, hl2⟩
    · go_simp
      refine hK.out _ _ ⟨by rw [cell_set_far _ _ _ _ _ _ hdis.1]; exact qr, by rw [cell_set_far _ _ _ _ _ _ hdis.2]; exact qd⟩ (fun h => absurd h (by decide)) ?_
      clear hK K
      try simp only [Act.put, List.setIfInBounds_toArray, List.set_cons_zero, List.set_cons_succ]
      refine Until.wpU_ready (rs := [10]) (by kernel_rfl) (by simp) ?_
      refine Until.AllU.cons (o := { dst := none, op := Op.store 25 (Operand.tmp 12) (Operand.tmp 8), type := 0, pos := "read.go:138", after := #[{ on := 9, ground := Ground.data }, { on := 5, ground := Ground.data }, { on := 8, ground := Ground.chain }, { on := 0, ground := Ground.phase }, { on := 1, ground := Ground.phase }, { on := 2, ground := Ground.phase }, { on := 3, ground := Ground.phase }, { on := 4, ground := Ground.phase }, { on := 5, ground := Ground.phase }, { on := 6, ground := Ground.phase }, { on := 7, ground := Ground.phase }, { on := 8, ground := Ground.phase }, { on := 12, ground := Ground.gcOnly Departure.appendInPlace }], guard := none }) rfl (fun K hK => ?_) Until.AllU.nil
      go_simp
      refine hK.out _ _ ⟨by simp only [cell_set_far _ _ _ _ _ _ (Ne.symm hgne.2.1), cell_set_far _ _ _ _ _ _ hdis.1]; exact qr, by simp only [cell_set_far _ _ _ _ _ _ (Ne.symm hgne.2.2.1), cell_set_far _ _ _ _ _ _ hdis.2]; exact qd⟩ (fun h => absurd h (by decide)) ?_
      clear hK K
      try simp only [Act.put, List.setIfInBounds_toArray, List.set_cons_zero, List.set_cons_succ]
      refine Until.wpU_done (by kernel_rfl) ?_ _
      refine NoPanic.normal ?_
      go_wp2
      go_end0
      obtain ⟨f1, f2, f3, f4, f5, f6, f7⟩ := items_fin (T := T) (n' := n') (X := w2) (loJ := w.heap.size + 1) hba.2 (by omega) (by intro k hk; simp at hk; omega) (by simp) (by simp) hbne.1 hbv hown hne0 hrep hA2 (by simpa using hrep2) (by omega) (by omega) (hold) (Nat.le_refl _) (fun k _ => rfl) hK2.os hK2.tape hK2.output hgrow3 hat3 hown3 (Or.inr rfl)
      exact ⟨rfl, list_close hE hK hb0 hba hfx hb8 ⟨lo1, lo2, lo3, lo4, lo5, lo6⟩ hdis hbr hbd (fun g hg => (ownsRow_ge hown hg).1) hne f1 f3 f4 f5 f6 f7, f2, hl1, hl2⟩
theorem bp_put {P : Program} {fn : Func} {R : Ending → World → Prop} {c : List PanicEntry} {d : Option Tmp} {v : Value} {a : Act} {w : World} (h : bodyPost P fn R (.panic c) (a.put d v) w) : bodyPost P fn R (.panic c) a w := by
  cases d <;> exact h
set_option maxHeartbeats 2000000 in
theorem list1_bad (base b bv br bd n k : Nat) (d : Int) (T : ByteArray) (tx : Nat → Res ByteArray) (hV : ValOk T tx k) (hd0 : 0 ≤ d) (hd : d + 1 + k = 64) (l : List J) (w0 wI w : World) (hI : ListInv base b bv br bd d w0 wI l w) (hA : At b T n w) (hn : n ≤ T.size) (hb8 : 8 ≤ b) (er p : Nat) (HR : Hid (valR T tx k n = .bad er p)) :
    Calls Tryz.prog 88 #[.pointer (some ⟨bv, 0, none⟩), .pointer (some ⟨br, 0, none⟩), .pointer (some ⟨bd, 0, none⟩)] w fun e w' => e = .panicked (faultC er p) ∧ Kp b w0 w' := by
  obtain ⟨hE, hK, hb0, hba, hfx, ⟨lo1, lo2, lo3, lo4, lo5, lo6⟩, hbr, hbd, ao, cap, xs, hbv, hown, hne0, hrep⟩ := hI
  have c4 : w.cell? ⟨bv, 4, none⟩ = some (.slice ao l.length cap) := cell_of hbv 4
  have cr : w.cell? ⟨br, 0, none⟩ = some (.pointer (some ⟨b, 0, none⟩)) := cell_of hbr 0
  have cd : w.cell? ⟨bd, 0, none⟩ = some (.int .i64 d) := cell_of hbd 0
  have dk : d ≤ 64 := by omega
  have hd2 : d + 1 ≤ 64 := by omega
  have HW : Hid (IntKind.i64.wrap (d + 1) = d + 1) := wrap_small _ (by omega) (by omega)
  have HD : Hid (d + 1 + k = 64) := hd
  clear hd
  go_enter Tryz.func88, Tryz.ntmps88
  go_wp2
  refine Until.wp_region_U (fun w' => w'.cell? ⟨br, 0, none⟩ = some (.pointer (some ⟨b, 0, none⟩)) ∧ w'.cell? ⟨bd, 0, none⟩ = some (.int .i64 d)) (fun w' => w'.cell? ⟨bv, 4, none⟩ = some (.slice ao l.length cap)) 8 (by kernel_rfl) ?_
  refine Until.wpU_pure (i := 0) (oi := { dst := some 3, op := Op.fieldAddr 25 (Operand.tmp 0) 4, type := 0, pos := "read.go:138", after := #[], guard := none }) (v := .pointer (some ⟨bv, 4, none⟩)) rfl (by kernel_rfl) (by kernel_rfl) (by kernel_rfl) (by kernel_rfl) (by kernel_rfl) (fun _ _ _ h => bp_put h) (⟨cr, cd⟩) (fun _ => c4) (by rfl) (by intro w'; go_simp) ?_
  try simp only [Act.put, List.setIfInBounds_toArray, List.set_cons_zero, List.set_cons_succ]
  refine Until.wpU_load1 (i := 1) (oi := { dst := some 4, op := Op.load 23 (Operand.tmp 3), type := 23, pos := "read.go:138", after := #[{ on := 0, ground := Ground.data }], guard := none }) (v := .slice ao l.length cap) rfl (by kernel_rfl) (by kernel_rfl) (by kernel_rfl) (by kernel_rfl) (by kernel_rfl) (by kernel_rfl) (fun _ _ _ h => bp_put h) (⟨cr, cd⟩) (c4) (by rfl) (by intro w' hw'; (try dsimp only at hw'); go_simp) ?_
  try simp only [Act.put, List.setIfInBounds_toArray, List.set_cons_zero, List.set_cons_succ]
  refine Until.wpU_load0 (i := 2) (oi := { dst := some 5, op := Op.load 72 (Operand.tmp 1), type := 72, pos := "read.go:138", after := #[], guard := none }) (v := .pointer (some ⟨b, 0, none⟩)) rfl (by kernel_rfl) (by kernel_rfl) (by kernel_rfl) (by kernel_rfl) (by kernel_rfl) (fun _ _ _ h => bp_put h) (⟨cr, cd⟩) (fun _ => c4) (by rfl) (by intro w' hw'; (try dsimp only at hw'); go_simp) ?_
  try simp only [Act.put, List.setIfInBounds_toArray, List.set_cons_zero, List.set_cons_succ]
  refine Until.wpU_load0 (i := 3) (oi := { dst := some 6, op := Op.load 3 (Operand.tmp 2), type := 3, pos := "read.go:138", after := #[], guard := none }) (v := .int .i64 d) rfl (by kernel_rfl) (by kernel_rfl) (by kernel_rfl) (by kernel_rfl) (by kernel_rfl) (fun _ _ _ h => bp_put h) (⟨cr, cd⟩) (fun _ => c4) (by rfl) (by intro w' hw'; (try dsimp only at hw'); go_simp) ?_
  try simp only [Act.put, List.setIfInBounds_toArray, List.set_cons_zero, List.set_cons_succ]
  refine Until.wpU_pure (i := 4) (oi := { dst := some 7, op := Op.binOp BinOp.add 3 (Operand.tmp 6) (Operand.const (Value.int IntKind.i64 1)) 3, type := 3, pos := "read.go:138", after := #[{ on := 3, ground := Ground.data }], guard := none }) (v := .int .i64 (d + 1)) rfl (by kernel_rfl) (by kernel_rfl) (by kernel_rfl) (by kernel_rfl) (by kernel_rfl) (fun _ _ _ h => bp_put h) (⟨cr, cd⟩) (fun _ => c4) (by rfl) (by intro w'; go_simp; rw [HW.out]) ?_
  try simp only [Act.put, List.setIfInBounds_toArray, List.set_cons_zero, List.set_cons_succ]
  refine Until.wpU_pure (i := 6) (oi := { dst := some 9, op := Op.call { callee := Callee.builtin Builtin.len, args := #[Operand.tmp 4], argTypes := #[23] }, type := 3, pos := "read.go:138", after := #[{ on := 1, ground := Ground.data }], guard := none }) (v := .int .i64 (l.length : Int)) rfl (by kernel_rfl) (by kernel_rfl) (by kernel_rfl) (by kernel_rfl) (by kernel_rfl) (fun _ _ _ h => bp_put h) (⟨cr, cd⟩) (fun _ => c4) (by rfl) (by intro w'; go_simp) ?_
  try simp only [Act.put, List.setIfInBounds_toArray, List.set_cons_zero, List.set_cons_succ]
  refine Until.wpU_ready (rs := [5, 7]) (by kernel_rfl) (by simp) ?_
  refine Until.AllU.cons (o := { dst := some 8, op := Op.call { callee := Callee.value (Operand.func 42), args := #[Operand.tmp 5, Operand.tmp 7], argTypes := #[72, 3] }, type := 25, pos := "read.go:138", after := #[{ on := 2, ground := Ground.data }, { on := 4, ground := Ground.data }], guard := none }) rfl (fun K hKK => ?_) (Until.AllU.cons (o := { dst := some 10, op := Op.buildSlice 23 1 #[(0, Operand.const (Value.agg #[Value.int IntKind.i64 0, Value.int IntKind.i64 0, Value.string { data := #[] }, Value.slice none 0 0, Value.slice none 0 0]))], type := 23, pos := "read.go:138", after := #[], guard := none }) rfl (fun K hKK => ?_) Until.AllU.nil)
  · go_simp
    refine (hV b n (d + 1) _ hA.drew hE.drew hb8 hn HD.out).mono ?_
    intro e w2 hp; rw [HR.out] at hp; obtain ⟨rfl, hK2⟩ := hp
    exact ⟨rfl, rfl, hK.drew.trans hK2⟩
  · go_simp
    refine hKK.out _ _ ⟨(World.cell?_of_block (w := w) (a := ⟨br, 0, none⟩) (Below.heap_alloc _ _ _ lo5)).trans cr, (World.cell?_of_block (w := w) (a := ⟨bd, 0, none⟩) (Below.heap_alloc _ _ _ lo6)).trans cd⟩ (fun _ => (World.cell?_of_block (w := w) (a := ⟨bv, 4, none⟩) (Below.heap_alloc _ _ _ lo4)).trans c4) ?_
    clear hKK K
    try simp only [Act.put, List.setIfInBounds_toArray, List.set_cons_zero, List.set_cons_succ]
    refine Until.wpU_ready (rs := [5]) (by kernel_rfl) (by simp) ?_
    refine Until.AllU.cons (o := { dst := some 8, op := Op.call { callee := Callee.value (Operand.func 42), args := #[Operand.tmp 5, Operand.tmp 7], argTypes := #[72, 3] }, type := 25, pos := "read.go:138", after := #[{ on := 2, ground := Ground.data }, { on := 4, ground := Ground.data }], guard := none }) rfl (fun K hKK => ?_) Until.AllU.nil
    go_simp
    refine (hV b n (d + 1) _ (hA.alloc _).drew (hE.alloc _).drew hb8 hn HD.out).mono ?_
    intro e w2 hp; rw [HR.out] at hp; obtain ⟨rfl, hK2⟩ := hp
    exact ⟨rfl, rfl, (hK.alloc _).drew.trans hK2⟩
end Go.Proofs.YtnccaidlcaeeaaaGreatDoor
