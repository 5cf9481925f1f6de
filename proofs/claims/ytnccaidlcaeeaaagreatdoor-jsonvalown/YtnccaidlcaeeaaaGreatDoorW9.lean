import Derived.Test.YtnccaidlcaeeaaaGreatDoorS5
import Derived.Test.YtnccaidlcaeeaaaGreatDoorW7
namespace Go.Proofs.YtnccaidlcaeeaaaGreatDoor
open Go Go.RowKit Go.Maps
theorem info9 : (Tryz.prog.info? 9).map (fun i => (i.zero, i.size, i.bytes)) = some (some (.string noS), 1, 16) := by kernel_rfl
theorem bp_then {P : Program} {fn : Func} {R : Ending → World → Prop} {K : Act → World → Prop} {c : List PanicEntry} {d : Option Tmp} {v : Value} {a : Act} {w : World} (h : Exit.then K (bodyPost P fn R) (.panic c) (a.put d v) w) : Exit.then K (bodyPost P fn R) (.panic c) a w := by
  cases d <;> exact h

set_option maxHeartbeats 2000000 in
theorem obj1_bad1 (base b bv br bd bh bm n : Nat) (d : Int) (T : ByteArray) (tx : Nat → Res ByteArray) (hQ : QuotedOk T tx)  (ns : List ByteArray) (l : List J) (w0 wI w : World) (hlo : ObjLo base b bv br bd bh bm w0) (hI : ObjInv base b bv br bd bh bm d w0 wI (ns, l) w) (hA : At b T n w) (hn : n ≤ T.size) (hT : T.size ≤ 65536) (hlen0 : l.length ≤ n) (hb8 : 8 ≤ b) (er p : Nat) (HN : Hid (nameR T tx ns n = .bad er p)) :
    Calls Tryz.prog 89 #[.pointer (some ⟨bv, 0, none⟩), .pointer (some ⟨br, 0, none⟩), .pointer (some ⟨bh, 0, none⟩), .pointer (some ⟨bd, 0, none⟩)] w fun e w' => e = .panicked (faultC er p) ∧ Kp b w0 w' := by
  have HI : Hid (ObjInv base b bv br bd bh bm d w0 wI (ns, l) w) := hI
  obtain ⟨hE, hK, hb0, hba, hfx, hbr, hbd, hbh, hS0, heq, an, cn, hnm, hnn, hit0⟩ := hI
  have hS : SetAt bm ns w := hS0
  have hlen : ns.length ≤ 100000 := by have h : ns.length = l.length := heq; omega
  have HO : Hid (ItemsInv base bv (.int .i64 6) (.slice an ns.length cn) (av6 b bv br bd bh bm ++ (Value.slice an ns.length cn).ownBlock.toList) l w) := hit0
  obtain ⟨ao0, cap0, xs0, hbv, hown0, hne00, hrep0⟩ := hit0
  have hlv := hlo.lo
  have hhv := hlo.hi
  have hnv := hlo.ne
  have lv : bv < w.heap.size := by omega
  have lr : br < w.heap.size := by omega
  have lh : bh < w.heap.size := by omega
  have hbm : bm ≠ b := by omega
  have c3 : w.cell? ⟨bv, 3, none⟩ = some (.slice an ns.length cn) := cell_of hbv 3
  have cr : w.cell? ⟨br, 0, none⟩ = some (.pointer (some ⟨b, 0, none⟩)) := cell_of hbr 0
  have ch : w.cell? ⟨bh, 0, none⟩ = some (.map (some bm)) := cell_of hbh 0
  have hbl := hA.lt
  obtain ⟨i9, hi9, hz90, hz91, hz92⟩ := info_parts info9
  clear heq hS0 hown0 hne00 hrep0 hfx
  go_enter Tryz.func89, Tryz.ntmps89
  go_wp2
  refine Until.wp_region_U (fun w' => w'.cell? ⟨br, 0, none⟩ = some (.pointer (some ⟨b, 0, none⟩)) ∧ w'.cell? ⟨bh, 0, none⟩ = some (.map (some bm))) (fun w' => w'.cell? ⟨bv, 3, none⟩ = some (.slice an ns.length cn)) 6 (by kernel_rfl) ?_
  refine Until.wpU_pure (i := 0) (oi := { dst := some 4, op := Op.fieldAddr 25 (Operand.tmp 0) 3, type := 0, pos := "read.go:147", after := #[], guard := none }) (v := .pointer (some ⟨bv, 3, none⟩)) rfl (by kernel_rfl) (by kernel_rfl) (by kernel_rfl) (by kernel_rfl) (by kernel_rfl) (fun _ _ _ h => bp_then h) (⟨cr, ch⟩) (fun _ => c3) (by rfl) (by intro w'; go_simp) ?_
  try simp only [Act.put, List.setIfInBounds_toArray, List.set_cons_zero, List.set_cons_succ]
  refine Until.wpU_load1 (i := 1) (oi := { dst := some 5, op := Op.load 22 (Operand.tmp 4), type := 22, pos := "read.go:147", after := #[{ on := 0, ground := Ground.data }], guard := none }) (v := .slice an ns.length cn) rfl (by kernel_rfl) (by kernel_rfl) (by kernel_rfl) (by kernel_rfl) (by kernel_rfl) (by kernel_rfl) (fun _ _ _ h => bp_then h) (⟨cr, ch⟩) (c3) (by rfl) (by intro w' hw'; (try dsimp only at hw'); go_simp) ?_
  try simp only [Act.put, List.setIfInBounds_toArray, List.set_cons_zero, List.set_cons_succ]
  refine Until.wpU_load0 (i := 2) (oi := { dst := some 6, op := Op.load 72 (Operand.tmp 1), type := 72, pos := "read.go:147", after := #[], guard := none }) (v := .pointer (some ⟨b, 0, none⟩)) rfl (by kernel_rfl) (by kernel_rfl) (by kernel_rfl) (by kernel_rfl) (by kernel_rfl) (fun _ _ _ h => bp_then h) (⟨cr, ch⟩) (fun _ => c3) (by rfl) (by intro w' hw'; (try dsimp only at hw'); go_simp) ?_
  try simp only [Act.put, List.setIfInBounds_toArray, List.set_cons_zero, List.set_cons_succ]
  refine Until.wpU_load0 (i := 3) (oi := { dst := some 7, op := Op.load 105 (Operand.tmp 2), type := 105, pos := "read.go:147", after := #[], guard := none }) (v := .map (some bm)) rfl (by kernel_rfl) (by kernel_rfl) (by kernel_rfl) (by kernel_rfl) (by kernel_rfl) (fun _ _ _ h => bp_then h) (⟨cr, ch⟩) (fun _ => c3) (by rfl) (by intro w' hw'; (try dsimp only at hw'); go_simp) ?_
  try simp only [Act.put, List.setIfInBounds_toArray, List.set_cons_zero, List.set_cons_succ]
  refine Until.wpU_ready (rs := [4]) (by kernel_rfl) (by simp) ?_
  refine Until.AllU.cons (o := { dst := some 8, op := Op.call { callee := Callee.value (Operand.func 90), args := #[Operand.tmp 6, Operand.tmp 7], argTypes := #[72, 105] }, type := 9, pos := "read.go:147", after := #[{ on := 2, ground := Ground.data }, { on := 3, ground := Ground.data }], guard := none }) rfl (fun K hKK => ?_) Until.AllU.nil
  go_simp
  refine (name_any b bm n T tx hQ ns w.drew hA hE.drew hb8 hbm hS hlen hn hT).mono ?_
  intro e w1 hp; rw [HN.out] at hp; obtain ⟨rfl, hK1⟩ := hp
  exact ⟨rfl, rfl, ⟨hK1.os.trans hK.os, hK1.tape.trans hK.tape, hK1.output.trans hK.output, Nat.le_trans hK.size hK1.size, fun i hi hib => (hK1.block i (Nat.lt_of_lt_of_le hi hK.size) hib (by omega)).trans (hK.block i hi hib)⟩⟩

set_option maxHeartbeats 2000000 in
theorem obj1_ok (base b bv br bd bh bm n k : Nat) (d : Int) (T : ByteArray) (tx : Nat → Res ByteArray) (hQ : QuotedOk T tx) (hV : ValOk T tx k) (hd0 : 0 ≤ d) (hd : d + 1 + k = 64) (ns : List ByteArray) (l : List J) (w0 wI w : World) (hlo : ObjLo base b bv br bd bh bm w0) (hI : ObjInv base b bv br bd bh bm d w0 wI (ns, l) w) (hA : At b T n w) (hn : n ≤ T.size) (hT : T.size ≤ 65536) (hlen0 : l.length ≤ n) (hb8 : 8 ≤ b) (s : ByteArray) (n1 n2 : Nat) (j : J) (HN : Hid (nameR T tx ns n = .ok s n1)) (HR : Hid (valR T tx k n1 = .ok j n2)) :
    Calls Tryz.prog 89 #[.pointer (some ⟨bv, 0, none⟩), .pointer (some ⟨br, 0, none⟩), .pointer (some ⟨bh, 0, none⟩), .pointer (some ⟨bd, 0, none⟩)] w fun e w' => e = .returned (.tuple #[]) ∧ ObjInv base b bv br bd bh bm d w0 wI (ns ++ [s], l ++ [j]) w' ∧ At b T n2 w' ∧ n < n2 ∧ n2 ≤ T.size := by
  have HI : Hid (ObjInv base b bv br bd bh bm d w0 wI (ns, l) w) := hI
  obtain ⟨hE, hK, hb0, hba, hfx, hbr, hbd, hbh, hS0, heq, an, cn, hnm, hnn, hit0⟩ := hI
  have hS : SetAt bm ns w := hS0
  have hlen : ns.length ≤ 100000 := by have h : ns.length = l.length := heq; omega
  have HO : Hid (ItemsInv base bv (.int .i64 6) (.slice an ns.length cn) (av6 b bv br bd bh bm ++ (Value.slice an ns.length cn).ownBlock.toList) l w) := hit0
  obtain ⟨ao0, cap0, xs0, hbv, hown0, hne00, hrep0⟩ := hit0
  have hlv := hlo.lo
  have hhv := hlo.hi
  have hnv := hlo.ne
  have lv : bv < w.heap.size := by omega
  have lr : br < w.heap.size := by omega
  have lh : bh < w.heap.size := by omega
  have hbm : bm ≠ b := by omega
  have c3 : w.cell? ⟨bv, 3, none⟩ = some (.slice an ns.length cn) := cell_of hbv 3
  have cr : w.cell? ⟨br, 0, none⟩ = some (.pointer (some ⟨b, 0, none⟩)) := cell_of hbr 0
  have ch : w.cell? ⟨bh, 0, none⟩ = some (.map (some bm)) := cell_of hbh 0
  have hbl := hA.lt
  obtain ⟨i9, hi9, hz90, hz91, hz92⟩ := info_parts info9
  clear heq hS0 hown0 hne00 hrep0 hfx
  have dk : d ≤ 64 := by omega
  have hd2 : d + 1 ≤ 64 := by omega
  have HW : Hid (IntKind.i64.wrap (d + 1) = d + 1) := wrap_small _ (by omega) (by omega)
  have HD : Hid (d + 1 + k = 64) := hd
  clear hd
  go_enter Tryz.func89, Tryz.ntmps89
  go_wp2
  refine wp_region_noPanic ?_
  refine Until.wp_region_U (fun w' => w'.cell? ⟨br, 0, none⟩ = some (.pointer (some ⟨b, 0, none⟩)) ∧ w'.cell? ⟨bh, 0, none⟩ = some (.map (some bm))) (fun w' => w'.cell? ⟨bv, 3, none⟩ = some (.slice an ns.length cn)) 6 (by kernel_rfl) ?_
  refine Until.wpU_pure (i := 0) (oi := { dst := some 4, op := Op.fieldAddr 25 (Operand.tmp 0) 3, type := 0, pos := "read.go:147", after := #[], guard := none }) (v := .pointer (some ⟨bv, 3, none⟩)) rfl (by kernel_rfl) (by kernel_rfl) (by kernel_rfl) (by kernel_rfl) (by kernel_rfl) (fun _ _ _ h => h) (⟨cr, ch⟩) (fun _ => c3) (by rfl) (by intro w'; go_simp) ?_
  try simp only [Act.put, List.setIfInBounds_toArray, List.set_cons_zero, List.set_cons_succ]
  refine Until.wpU_load1 (i := 1) (oi := { dst := some 5, op := Op.load 22 (Operand.tmp 4), type := 22, pos := "read.go:147", after := #[{ on := 0, ground := Ground.data }], guard := none }) (v := .slice an ns.length cn) rfl (by kernel_rfl) (by kernel_rfl) (by kernel_rfl) (by kernel_rfl) (by kernel_rfl) (by kernel_rfl) (fun _ _ _ h => h) (⟨cr, ch⟩) (c3) (by rfl) (by intro w' hw'; (try dsimp only at hw'); go_simp) ?_
  try simp only [Act.put, List.setIfInBounds_toArray, List.set_cons_zero, List.set_cons_succ]
  refine Until.wpU_load0 (i := 2) (oi := { dst := some 6, op := Op.load 72 (Operand.tmp 1), type := 72, pos := "read.go:147", after := #[], guard := none }) (v := .pointer (some ⟨b, 0, none⟩)) rfl (by kernel_rfl) (by kernel_rfl) (by kernel_rfl) (by kernel_rfl) (by kernel_rfl) (fun _ _ _ h => h) (⟨cr, ch⟩) (fun _ => c3) (by rfl) (by intro w' hw'; (try dsimp only at hw'); go_simp) ?_
  try simp only [Act.put, List.setIfInBounds_toArray, List.set_cons_zero, List.set_cons_succ]
  refine Until.wpU_load0 (i := 3) (oi := { dst := some 7, op := Op.load 105 (Operand.tmp 2), type := 105, pos := "read.go:147", after := #[], guard := none }) (v := .map (some bm)) rfl (by kernel_rfl) (by kernel_rfl) (by kernel_rfl) (by kernel_rfl) (by kernel_rfl) (fun _ _ _ h => h) (⟨cr, ch⟩) (fun _ => c3) (by rfl) (by intro w' hw'; (try dsimp only at hw'); go_simp) ?_
  try simp only [Act.put, List.setIfInBounds_toArray, List.set_cons_zero, List.set_cons_succ]
  refine Until.wpU_ready (rs := [4]) (by kernel_rfl) (by simp) ?_
  refine Until.AllU.cons (o := { dst := some 8, op := Op.call { callee := Callee.value (Operand.func 90), args := #[Operand.tmp 6, Operand.tmp 7], argTypes := #[72, 105] }, type := 9, pos := "read.go:147", after := #[{ on := 2, ground := Ground.data }, { on := 3, ground := Ground.data }], guard := none }) rfl (fun K hKK => ?_) Until.AllU.nil
  go_simp
  refine (name_any b bm n T tx hQ ns w.drew hA hE.drew hb8 hbm hS hlen hn hT).mono ?_
  intro e w1 hp; rw [HN.out] at hp; obtain ⟨rfl, hss, hA1, hS1, hK1, hm1, hm2⟩ := hp
  have s1 : w.heap.size ≤ w1.heap.size := hK1.size
  have hk1 : ∀ k, k < w.heap.size → k ≠ b → k ≠ bm → w1.heap[k]? = w.heap[k]? := fun k hk a1 a2 => hK1.block k hk a1 a2
  have g3 := (World.cell?_of_block (w := w) (a := ⟨bv, 3, none⟩) (hk1 bv lv (by omega) (by omega))).trans c3
  have gr := (World.cell?_of_block (w := w) (a := ⟨br, 0, none⟩) (hk1 br lr (by omega) (by omega))).trans cr
  have gh := (World.cell?_of_block (w := w) (a := ⟨bh, 0, none⟩) (hk1 bh lh (by omega) (by omega))).trans ch
  have hown2 : w1.ownsRow base 9 1 (.slice an ns.length cn) ns.length (strs ns) := ownsRow_keep hnm (fun g hg => hk1 g (ownsRow_ge hnm hg).2 (fun e => hnn g hg (by simp [av6, e])) (fun e => hnn g hg (by simp [av6, e])))
  refine hKK.out _ _ ⟨gr, gh⟩ (fun _ => g3) ?_
  clear hKK K
  try simp only [Act.put, List.setIfInBounds_toArray, List.set_cons_zero, List.set_cons_succ]
  refine Until.wpU_ready (rs := [5]) (by kernel_rfl) (by simp) ?_
  refine Until.AllU.cons (o := { dst := some 9, op := Op.buildSlice 22 1 #[(0, Operand.tmp 8)], type := 22, pos := "read.go:147", after := #[{ on := 4, ground := Ground.data }], guard := none }) rfl (fun K hKK => ?_) Until.AllU.nil
  go_simp
  refine hKK.out _ _ ⟨(World.cell?_of_block (w := w1) (a := ⟨br, 0, none⟩) (Below.heap_alloc _ _ _ (show br < w1.heap.size by omega))).trans gr, (World.cell?_of_block (w := w1) (a := ⟨bh, 0, none⟩) (Below.heap_alloc _ _ _ (show bh < w1.heap.size by omega))).trans gh⟩ (fun _ => (World.cell?_of_block (w := w1) (a := ⟨bv, 3, none⟩) (Below.heap_alloc _ _ _ (show bv < w1.heap.size by omega))).trans g3) ?_
  clear hKK K
  try simp only [Act.put, List.setIfInBounds_toArray, List.set_cons_zero, List.set_cons_succ]
  refine Until.wpU_ready (rs := [6]) (by kernel_rfl) (by simp) ?_
  refine Until.AllU.cons (o := { dst := some 10, op := Op.call { callee := Callee.builtin Builtin.append, args := #[Operand.tmp 5, Operand.tmp 9], argTypes := #[22, 22] }, type := 22, pos := "read.go:147", after := #[{ on := 1, ground := Ground.data }, { on := 5, ground := Ground.data }, { on := 4, ground := Ground.chain }], guard := none }) rfl (fun K hKK => ?_) Until.AllU.nil
  refine step_append_lies _ (by rfl) _ _ 22 (by rfl) base 9 i9 _ 1 16 Tryz.underlying22 hi9 hz90 hz91 hz92 (by rfl) (by omega) _ ns.length (strs ns) (by rfl) (hown2.alloc _) _ 1 1 [.string s] (by rfl) (by rfl) (World.news_of_block (heap_alloc_new w1 _)) (by intro u hu; rw [List.mem_singleton.1 hu]; rfl) (by omega) (by unfold maxLen; omega) (by omega) (by simp only [World.size_alloc]; omega) _ rfl ?_
  intro g cap3 w3 hown3 hgrow3 hat3 hlt3
  have q3 := (hgrow3.cell_far ⟨bv, 3, none⟩ (by show bv < _; simp only [World.size_alloc]; omega) (fun h => hnn bv h.symm (by simp [av6]))).trans ((World.cell?_of_block (w := w1) (a := ⟨bv, 3, none⟩) (Below.heap_alloc _ _ _ (show bv < w1.heap.size by omega))).trans g3)
  have qr := (hgrow3.cell_far ⟨br, 0, none⟩ (by show br < _; simp only [World.size_alloc]; omega) (fun h => hnn br h.symm (by simp [av6]))).trans ((World.cell?_of_block (w := w1) (a := ⟨br, 0, none⟩) (Below.heap_alloc _ _ _ (show br < w1.heap.size by omega))).trans gr)
  have qh := (hgrow3.cell_far ⟨bh, 0, none⟩ (by show bh < _; simp only [World.size_alloc]; omega) (fun h => hnn bh h.symm (by simp [av6]))).trans ((World.cell?_of_block (w := w1) (a := ⟨bh, 0, none⟩) (Below.heap_alloc _ _ _ (show bh < w1.heap.size by omega))).trans gh)
  have qf : w3.frozen? ⟨bv, 3, none⟩ = false := frozen_of (((hgrow3.block bv (by simp only [World.size_alloc]; omega) (fun h => hnn bv h.symm (by simp [av6]))).trans ((Below.heap_alloc w1 _ bv (by omega)).trans (hk1 bv lv (by omega) (by omega)))).trans hbv) 3
  refine hKK.out _ _ ⟨qr, qh⟩ (fun h => absurd h (by decide)) ?_
  clear hKK K
  try simp only [Act.put, List.setIfInBounds_toArray, List.set_cons_zero, List.set_cons_succ]
  refine Until.wpU_pure (i := 7) (oi := { dst := some 11, op := Op.fieldAddr 25 (Operand.tmp 0) 3, type := 0, pos := "read.go:147", after := #[{ on := 0, ground := Ground.phase }, { on := 1, ground := Ground.phase }, { on := 2, ground := Ground.phase }, { on := 3, ground := Ground.phase }, { on := 4, ground := Ground.phase }, { on := 5, ground := Ground.phase }, { on := 6, ground := Ground.phase }], guard := none }) (v := .pointer (some ⟨bv, 3, none⟩)) rfl (by kernel_rfl) (by kernel_rfl) (by kernel_rfl) (by kernel_rfl) (by kernel_rfl) (fun _ _ _ h => h) (⟨qr, qh⟩) (fun h => absurd h (by decide)) (by rfl) (by intro w'; go_simp) ?_
  try simp only [Act.put, List.setIfInBounds_toArray, List.set_cons_zero, List.set_cons_succ]
  refine Until.wpU_ready (rs := [8]) (by kernel_rfl) (by simp) ?_
  refine Until.AllU.cons (o := { dst := none, op := Op.store 22 (Operand.tmp 11) (Operand.tmp 10), type := 0, pos := "read.go:147", after := #[{ on := 7, ground := Ground.data }, { on := 6, ground := Ground.data }, { on := 6, ground := Ground.chain }, { on := 0, ground := Ground.phase }, { on := 1, ground := Ground.phase }, { on := 2, ground := Ground.phase }, { on := 3, ground := Ground.phase }, { on := 4, ground := Ground.phase }, { on := 5, ground := Ground.phase }, { on := 6, ground := Ground.phase }], guard := none }) rfl (fun K hKK => ?_) Until.AllU.nil
  go_simp
  refine hKK.out _ _ ⟨by rw [cell_set_far _ _ _ _ _ _ hlo.ne.1]; exact qr, by rw [cell_set_far _ _ _ _ _ _ hlo.ne.2.2.1]; exact qh⟩ (fun h => absurd h (by decide)) ?_
  clear hKK K
  try simp only [Act.put, List.setIfInBounds_toArray, List.set_cons_zero, List.set_cons_succ]
  refine Until.wpU_done (by kernel_rfl) ?_ _
  refine NoPanic.normal ?_
  go_wp2
  obtain ⟨m1, m2, m3, m4, m5, m6, m7, m8, m9, m10, m11⟩ := names_fin (T := T) (n1 := n1) (X := w1.alloc _) hlo hb0 hba hnm hnn HO.out hA1 hS1 ⟨hK1.os, hK1.tape, hK1.output, hK1.size, hK1.block⟩ (by simp) (fun k hk => Below.heap_alloc w1 _ k hk) rfl rfl rfl hgrow3 hat3 hown3 rfl
  have hrm := m11 br lr (by omega) hnv.1 (by omega) (fun g0 h0 e => hnn g0 h0 (by simp [av6, e]))
  have hdm := m11 bd (by omega) (by omega) hnv.2.1 (by omega) (fun g0 h0 e => hnn g0 h0 (by simp [av6, e]))
  have hEm : Env (w3.setCell ⟨bv, 3, none⟩ (.slice (some ⟨g, 0, none⟩) (ns.length + 1) cap3)) := hE.keep (fun k hk => m11 k (by omega) (by omega) (by omega) (by omega) (fun g0 h0 => by have := (ownsRow_ge hnm h0).1; omega))
  generalize w3.setCell ⟨bv, 3, none⟩ (.slice (some ⟨g, 0, none⟩) (ns.length + 1) cap3) = wm at *
  clear hown3 hgrow3 hat3 hlt3 q3 qr qh qf hown2 g3 gr gh hk1 hK1 hS1 hA1 s1 c3 cr ch hbv
  obtain ⟨ao, cap, xs, hbv, hown, hne0, hrep⟩ := m1
  have HM : Hid (wm.ownsRow base 9 1 (.slice (some ⟨g, 0, none⟩) (ns.length + 1) cap3) (ns.length + 1) (strs (ns ++ [s])) ∧ g ∉ av6 b bv br bd bh bm ∧ SetAt bm (ns ++ [s]) wm ∧ wm.os = w.os ∧ wm.tape = w.tape ∧ wm.output = w.output ∧ (∀ k, k < w.heap.size → k ≠ b → k ≠ bv → k ≠ bm → (∀ g0, (Value.slice an ns.length cn).ownBlock = some g0 → k ≠ g0) → wm.heap[k]? = w.heap[k]?)) := ⟨m2, m3, m5, m7, m8, m9, m11⟩
  have HG : Hid (g < wm.heap.size) := m4
  have hne : ∀ gi, (Value.slice ao l.length cap).ownBlock = some gi → gi ≠ bv ∧ gi ≠ br ∧ gi ≠ bd ∧ gi ≠ b := fun gi hgi => by have := hne0 gi hgi; simp [av6] at this; omega
  have c4 : wm.cell? ⟨bv, 4, none⟩ = some (.slice ao l.length cap) := cell_of hbv 4
  have cr : wm.cell? ⟨br, 0, none⟩ = some (.pointer (some ⟨b, 0, none⟩)) := cell_of (hrm.trans hbr) 0
  have cd : wm.cell? ⟨bd, 0, none⟩ = some (.int .i64 d) := cell_of (hdm.trans hbd) 0
  have lo4 : bv < wm.heap.size := by omega
  have lo5 : br < wm.heap.size := by omega
  have lo6 : bd < wm.heap.size := by omega
  have hbne : b ≠ bv ∧ b ≠ br ∧ b ≠ bd := ⟨by omega, by omega, by omega⟩
  have hdis : br ≠ bv ∧ bd ≠ bv := ⟨hnv.1, hnv.2.1⟩
  have hbam : base ≤ wm.heap.size := by omega
  have hblm : b < wm.heap.size := by omega
  clear m2 m3 m4 m5 m7 m8 m9 m11 hrm hdm
  obtain ⟨i0, hi, hz0, hz1, hz2⟩ := info_parts info28
  refine wp_region_noPanic ?_
  refine Until.wp_region_U (fun w' => w'.cell? ⟨br, 0, none⟩ = some (.pointer (some ⟨b, 0, none⟩)) ∧ w'.cell? ⟨bd, 0, none⟩ = some (.int .i64 d)) (fun w' => w'.cell? ⟨bv, 4, none⟩ = some (.slice ao l.length cap)) 8 (by kernel_rfl) ?_
  refine Until.wpU_pure (i := 0) (oi := { dst := some 12, op := Op.fieldAddr 25 (Operand.tmp 0) 4, type := 0, pos := "read.go:148", after := #[], guard := none }) (v := .pointer (some ⟨bv, 4, none⟩)) rfl (by kernel_rfl) (by kernel_rfl) (by kernel_rfl) (by kernel_rfl) (by kernel_rfl) (fun _ _ _ h => h) (⟨cr, cd⟩) (fun _ => c4) (by rfl) (by intro w'; go_simp) ?_
  try simp only [Act.put, List.setIfInBounds_toArray, List.set_cons_zero, List.set_cons_succ]
  refine Until.wpU_load1 (i := 1) (oi := { dst := some 13, op := Op.load 23 (Operand.tmp 12), type := 23, pos := "read.go:148", after := #[{ on := 0, ground := Ground.data }], guard := none }) (v := .slice ao l.length cap) rfl (by kernel_rfl) (by kernel_rfl) (by kernel_rfl) (by kernel_rfl) (by kernel_rfl) (by kernel_rfl) (fun _ _ _ h => h) (⟨cr, cd⟩) (c4) (by rfl) (by intro w' hw'; (try dsimp only at hw'); go_simp) ?_
  try simp only [Act.put, List.setIfInBounds_toArray, List.set_cons_zero, List.set_cons_succ]
  refine Until.wpU_load0 (i := 2) (oi := { dst := some 14, op := Op.load 72 (Operand.tmp 1), type := 72, pos := "read.go:148", after := #[], guard := none }) (v := .pointer (some ⟨b, 0, none⟩)) rfl (by kernel_rfl) (by kernel_rfl) (by kernel_rfl) (by kernel_rfl) (by kernel_rfl) (fun _ _ _ h => h) (⟨cr, cd⟩) (fun _ => c4) (by rfl) (by intro w' hw'; (try dsimp only at hw'); go_simp) ?_
  try simp only [Act.put, List.setIfInBounds_toArray, List.set_cons_zero, List.set_cons_succ]
  refine Until.wpU_load0 (i := 3) (oi := { dst := some 15, op := Op.load 3 (Operand.tmp 3), type := 3, pos := "read.go:148", after := #[], guard := none }) (v := .int .i64 d) rfl (by kernel_rfl) (by kernel_rfl) (by kernel_rfl) (by kernel_rfl) (by kernel_rfl) (fun _ _ _ h => h) (⟨cr, cd⟩) (fun _ => c4) (by rfl) (by intro w' hw'; (try dsimp only at hw'); go_simp) ?_
  try simp only [Act.put, List.setIfInBounds_toArray, List.set_cons_zero, List.set_cons_succ]
  refine Until.wpU_pure (i := 4) (oi := { dst := some 16, op := Op.binOp BinOp.add 3 (Operand.tmp 15) (Operand.const (Value.int IntKind.i64 1)) 3, type := 3, pos := "read.go:148", after := #[{ on := 3, ground := Ground.data }], guard := none }) (v := .int .i64 (d + 1)) rfl (by kernel_rfl) (by kernel_rfl) (by kernel_rfl) (by kernel_rfl) (by kernel_rfl) (fun _ _ _ h => h) (⟨cr, cd⟩) (fun _ => c4) (by rfl) (by intro w'; go_simp; rw [HW.out]) ?_
  try simp only [Act.put, List.setIfInBounds_toArray, List.set_cons_zero, List.set_cons_succ]
  refine Until.wpU_pure (i := 6) (oi := { dst := some 18, op := Op.call { callee := Callee.builtin Builtin.len, args := #[Operand.tmp 13], argTypes := #[23] }, type := 3, pos := "read.go:148", after := #[{ on := 1, ground := Ground.data }], guard := none }) (v := .int .i64 (l.length : Int)) rfl (by kernel_rfl) (by kernel_rfl) (by kernel_rfl) (by kernel_rfl) (by kernel_rfl) (fun _ _ _ h => h) (⟨cr, cd⟩) (fun _ => c4) (by rfl) (by intro w'; go_simp) ?_
  try simp only [Act.put, List.setIfInBounds_toArray, List.set_cons_zero, List.set_cons_succ]
  refine Until.wpU_ready (rs := [5, 7]) (by kernel_rfl) (by simp) ?_
  refine Until.AllU.cons (o := { dst := some 17, op := Op.call { callee := Callee.value (Operand.func 42), args := #[Operand.tmp 14, Operand.tmp 16], argTypes := #[72, 3] }, type := 25, pos := "read.go:148", after := #[{ on := 2, ground := Ground.data }, { on := 4, ground := Ground.data }], guard := none }) rfl (fun K hK => ?_) (Until.AllU.cons (o := { dst := some 19, op := Op.buildSlice 23 1 #[(0, Operand.const (Value.agg #[Value.int IntKind.i64 0, Value.int IntKind.i64 0, Value.string { data := #[] }, Value.slice none 0 0, Value.slice none 0 0]))], type := 23, pos := "read.go:148", after := #[], guard := none }) rfl (fun K hK => ?_) Until.AllU.nil)
  · go_simp
    refine (hV b n1 (d + 1) _ (m6.drew) (hEm.drew) hb8 hm2 HD.out).mono ?_
    intro e w2 hp; rw [HR.out] at hp; obtain ⟨kd, x, ss, a1, l1, c1, a2, l2, c2, rfl, hrep2, hA2, hK2, hl1, hl2⟩ := hp
    have hs2 : wm.heap.size  ≤ w2.heap.size := by have := hK2.size; simpa using this
    have hold : ∀ gi, gi < wm.heap.size → gi ≠ b → w2.heap[gi]? = wm.heap[gi]? := fun gi hg hgb => (hK2.block gi (by simp; omega) hgb)
    have hown2 : w2.ownsRow base 25 5 (.slice ao l.length cap) l.length xs := ownsRow_keep hown (fun gi hg => hold gi (ownsRow_ge hown hg).2 (hne gi hg).2.2.2)
    have g4 := (World.cell?_of_block (w := wm) (a := ⟨bv, 4, none⟩) (hold bv lo4 (Ne.symm hbne.1))).trans c4
    have gr := (World.cell?_of_block (w := wm) (a := ⟨br, 0, none⟩) (hold br lo5 (Ne.symm hbne.2.1))).trans cr
    have gd := (World.cell?_of_block (w := wm) (a := ⟨bd, 0, none⟩) (hold bd lo6 (Ne.symm hbne.2.2))).trans cd
    refine hK.out _ _ ⟨gr, gd⟩ (fun _ => g4) ?_
    clear hK K
    try simp only [Act.put, List.setIfInBounds_toArray, List.set_cons_zero, List.set_cons_succ]
    refine Until.wpU_ready (rs := [7]) (by kernel_rfl) (by simp) ?_
    refine Until.AllU.cons (o := { dst := some 19, op := Op.buildSlice 23 1 #[(0, Operand.const (Value.agg #[Value.int IntKind.i64 0, Value.int IntKind.i64 0, Value.string { data := #[] }, Value.slice none 0 0, Value.slice none 0 0]))], type := 23, pos := "read.go:148", after := #[], guard := none }) rfl (fun K hK => ?_) Until.AllU.nil
    go_simp
    refine hK.out _ _ ⟨(World.cell?_of_block (w := w2) (a := ⟨br, 0, none⟩) (Below.heap_alloc _ _ _ (show br < w2.heap.size by omega))).trans gr, (World.cell?_of_block (w := w2) (a := ⟨bd, 0, none⟩) (Below.heap_alloc _ _ _ (show bd < w2.heap.size by omega))).trans gd⟩ (fun _ => (World.cell?_of_block (w := w2) (a := ⟨bv, 4, none⟩) (Below.heap_alloc _ _ _ (show bv < w2.heap.size by omega))).trans g4) ?_
    clear hK K
    try simp only [Act.put, List.setIfInBounds_toArray, List.set_cons_zero, List.set_cons_succ]
    refine Until.wpU_ready (rs := [8]) (by kernel_rfl) (by simp) ?_
    refine Until.AllU.cons (o := { dst := some 20, op := Op.call { callee := Callee.builtin Builtin.append, args := #[Operand.tmp 13, Operand.tmp 19], argTypes := #[23, 23] }, type := 23, pos := "read.go:148", after := #[{ on := 1, ground := Ground.data }, { on := 7, ground := Ground.data }, { on := 5, ground := Ground.chain }, { on := 0, ground := Ground.phase }, { on := 1, ground := Ground.phase }, { on := 2, ground := Ground.phase }, { on := 3, ground := Ground.phase }, { on := 4, ground := Ground.phase }, { on := 5, ground := Ground.phase }, { on := 6, ground := Ground.phase }, { on := 7, ground := Ground.phase }], guard := none }) rfl (fun K hK => ?_) Until.AllU.nil
    refine step_append_lies _ (by rfl) _ _ 23 (by rfl) base 25 i0 _ 5 80 Tryz.underlying23 hi hz0 hz1 hz2 (by rfl) (by omega) _ l.length xs (by rfl) (hown2.alloc _) _ 1 1 zer (by rfl) (by rfl) (World.news_of_block (heap_alloc_new w2 _)) zer1 (by omega) (by unfold maxLen; omega) (by omega) (by simp only [World.size_alloc]; omega) _ rfl ?_
    intro gi cap4 w4 hown3 hgrow3 hat3 hlt3
    have q4 := (hgrow3.cell_far ⟨bv, 4, none⟩ (by show bv < _; simp only [World.size_alloc]; omega) (fun h => (hne bv h.symm).1 rfl)).trans ((World.cell?_of_block (w := w2) (a := ⟨bv, 4, none⟩) (Below.heap_alloc _ _ _ (show bv < w2.heap.size by omega))).trans g4)
    have qr := (hgrow3.cell_far ⟨br, 0, none⟩ (by show br < _; simp only [World.size_alloc]; omega) (fun h => (hne br h.symm).2.1 rfl)).trans ((World.cell?_of_block (w := w2) (a := ⟨br, 0, none⟩) (Below.heap_alloc _ _ _ (show br < w2.heap.size by omega))).trans gr)
    have qd := (hgrow3.cell_far ⟨bd, 0, none⟩ (by show bd < _; simp only [World.size_alloc]; omega) (fun h => (hne bd h.symm).2.2.1 rfl)).trans ((World.cell?_of_block (w := w2) (a := ⟨bd, 0, none⟩) (Below.heap_alloc _ _ _ (show bd < w2.heap.size by omega))).trans gd)
    have hxl : xs.length = l.length * 5 := hown.1
    have e0 : w4.cell? ⟨gi, l.length * 5, none⟩ = some (.int .i64 0) := (hown3.cellAt (l.length * 5) (by omega)).trans (zer_at xs _ 0 hxl (by omega))
    have e1 : w4.cell? ⟨gi, l.length * 5 + 1, none⟩ = some (.int .i64 0) := (hown3.cellAt (l.length * 5 + 1) (by omega)).trans (zer_at xs _ 1 hxl (by omega))
    have e2 : w4.cell? ⟨gi, l.length * 5 + 2, none⟩ = some (.string noS) := (hown3.cellAt (l.length * 5 + 2) (by omega)).trans (zer_at xs _ 2 hxl (by omega))
    have e3 : w4.cell? ⟨gi, l.length * 5 + 3, none⟩ = some nilS := (hown3.cellAt (l.length * 5 + 3) (by omega)).trans (zer_at xs _ 3 hxl (by omega))
    have e4 : w4.cell? ⟨gi, l.length * 5 + 4, none⟩ = some nilS := (hown3.cellAt (l.length * 5 + 4) (by omega)).trans (zer_at xs _ 4 hxl (by omega))
    have ef := fun jj => hown3.frozenAt jj
    have hgne : gi ≠ bv ∧ gi ≠ br ∧ gi ≠ bd ∧ gi ≠ b := hat3.elim (fun h => hne gi h) (fun h => by simp only [World.size_alloc] at h; omega)
    have HX : Hid (xs.length = l.length * 5) := hxl
    clear hxl
    have hgbv : bv ≠ gi := Ne.symm hgne.1
    have hbv3 : w4.heap[bv]? = wm.heap[bv]? := (hgrow3.block bv (by simp only [World.size_alloc]; omega) (fun h => (hne bv h.symm).1 rfl)).trans ((Below.heap_alloc w2 _ bv (by omega)).trans (hold bv lo4 (Ne.symm hbne.1)))
    have qf := frozen_of (hbv3.trans hbv) 4
    have sb1 := fun (X : World) (o : Nat) (v : Value) => cell_set_far X gi o 4 bv v hgbv
    have sb2 := fun (X : World) (o : Nat) (v : Value) => frozen_set_far X gi o 4 bv v hgbv
    have sb3 := fun (X : World) (o : Nat) (v : Value) => cell_set_far X bv 4 o gi v hgne.1
    have sb4 := fun (X : World) (o : Nat) (v : Value) => frozen_set_far X bv 4 o gi v hgne.1
    have HB : Hid (w4.heap[bv]? = wm.heap[bv]?) := hbv3
    clear hbv3
    have ib1 : (0 : Int) ≤ (l.length : Int) := by omega
    have ib2 : (l.length : Int) < ((l.length + 1 : Nat) : Int) := by omega
    have ib3 : (l.length : Int) < (l.length : Int) + 1 := by omega
    refine hK.out _ _ ⟨qr, qd⟩ (fun h => absurd h (by decide)) ?_
    clear hK K
    try simp only [Act.put, List.setIfInBounds_toArray, List.set_cons_zero, List.set_cons_succ]
    refine Until.wpU_pure (i := 9) (oi := { dst := some 21, op := Op.indexAddr 23 (Operand.tmp 20) (Operand.tmp 18), type := 0, pos := "read.go:148", after := #[{ on := 8, ground := Ground.data }, { on := 6, ground := Ground.data }, { on := 0, ground := Ground.phase }, { on := 1, ground := Ground.phase }, { on := 2, ground := Ground.phase }, { on := 3, ground := Ground.phase }, { on := 4, ground := Ground.phase }, { on := 5, ground := Ground.phase }, { on := 6, ground := Ground.phase }, { on := 7, ground := Ground.phase }, { on := 8, ground := Ground.phase }, { on := 12, ground := Ground.gcOnly Departure.appendInPlace }], guard := none }) (v := .pointer (some ⟨gi, l.length * 5, none⟩)) rfl (by kernel_rfl) (by kernel_rfl) (by kernel_rfl) (by kernel_rfl) (by kernel_rfl) (fun _ _ _ h => h) (⟨qr, qd⟩) (fun h => absurd h (by decide)) (by rfl) (by intro w'; go_simp) ?_
    try simp only [Act.put, List.setIfInBounds_toArray, List.set_cons_zero, List.set_cons_succ]
    refine Until.wpU_pure (i := 11) (oi := { dst := some 22, op := Op.fieldAddr 25 (Operand.tmp 0) 4, type := 0, pos := "read.go:148", after := #[{ on := 0, ground := Ground.phase }, { on := 1, ground := Ground.phase }, { on := 2, ground := Ground.phase }, { on := 3, ground := Ground.phase }, { on := 4, ground := Ground.phase }, { on := 5, ground := Ground.phase }, { on := 6, ground := Ground.phase }, { on := 7, ground := Ground.phase }, { on := 8, ground := Ground.phase }, { on := 9, ground := Ground.textOnly Departure.appendInPlace }, { on := 10, ground := Ground.textOnly Departure.appendInPlace }], guard := none }) (v := .pointer (some ⟨bv, 4, none⟩)) rfl (by kernel_rfl) (by kernel_rfl) (by kernel_rfl) (by kernel_rfl) (by kernel_rfl) (fun _ _ _ h => h) (⟨qr, qd⟩) (fun h => absurd h (by decide)) (by rfl) (by intro w'; go_simp) ?_
    try simp only [Act.put, List.setIfInBounds_toArray, List.set_cons_zero, List.set_cons_succ]
    refine Until.wpU_ready (rs := [10, 12]) (by kernel_rfl) (by simp) ?_
    refine Until.AllU.cons (o := { dst := none, op := Op.store 25 (Operand.tmp 21) (Operand.tmp 17), type := 0, pos := "read.go:148", after := #[{ on := 9, ground := Ground.data }, { on := 5, ground := Ground.data }, { on := 8, ground := Ground.chain }, { on := 0, ground := Ground.phase }, { on := 1, ground := Ground.phase }, { on := 2, ground := Ground.phase }, { on := 3, ground := Ground.phase }, { on := 4, ground := Ground.phase }, { on := 5, ground := Ground.phase }, { on := 6, ground := Ground.phase }, { on := 7, ground := Ground.phase }, { on := 8, ground := Ground.phase }, { on := 12, ground := Ground.gcOnly Departure.appendInPlace }], guard := none }) rfl (fun K hK => ?_) (Until.AllU.cons (o := { dst := none, op := Op.store 23 (Operand.tmp 22) (Operand.tmp 20), type := 0, pos := "read.go:148", after := #[{ on := 11, ground := Ground.data }, { on := 8, ground := Ground.data }, { on := 8, ground := Ground.chain }, { on := 10, ground := Ground.textOnly Departure.appendInPlace }, { on := 0, ground := Ground.phase }, { on := 1, ground := Ground.phase }, { on := 2, ground := Ground.phase }, { on := 3, ground := Ground.phase }, { on := 4, ground := Ground.phase }, { on := 5, ground := Ground.phase }, { on := 6, ground := Ground.phase }, { on := 7, ground := Ground.phase }, { on := 8, ground := Ground.phase }, { on := 9, ground := Ground.textOnly Departure.appendInPlace }, { on := 10, ground := Ground.textOnly Departure.appendInPlace }], guard := none }) rfl (fun K hK => ?_) Until.AllU.nil)
    · go_simp
      refine hK.out _ _ ⟨by simp only [cell_set_far _ _ _ _ _ _ (Ne.symm hgne.2.1)]; exact qr, by simp only [cell_set_far _ _ _ _ _ _ (Ne.symm hgne.2.2.1)]; exact qd⟩ (fun h => absurd h (by decide)) ?_
      clear hK K
      try simp only [Act.put, List.setIfInBounds_toArray, List.set_cons_zero, List.set_cons_succ]
      refine Until.wpU_ready (rs := [12]) (by kernel_rfl) (by simp) ?_
      refine Until.AllU.cons (o := { dst := none, op := Op.store 23 (Operand.tmp 22) (Operand.tmp 20), type := 0, pos := "read.go:148", after := #[{ on := 11, ground := Ground.data }, { on := 8, ground := Ground.data }, { on := 8, ground := Ground.chain }, { on := 10, ground := Ground.textOnly Departure.appendInPlace }, { on := 0, ground := Ground.phase }, { on := 1, ground := Ground.phase }, { on := 2, ground := Ground.phase }, { on := 3, ground := Ground.phase }, { on := 4, ground := Ground.phase }, { on := 5, ground := Ground.phase }, { on := 6, ground := Ground.phase }, { on := 7, ground := Ground.phase }, { on := 8, ground := Ground.phase }, { on := 9, ground := Ground.textOnly Departure.appendInPlace }, { on := 10, ground := Ground.textOnly Departure.appendInPlace }], guard := none }) rfl (fun K hK => ?_) Until.AllU.nil
      go_simp
      refine hK.out _ _ ⟨by simp only [cell_set_far _ _ _ _ _ _ (Ne.symm hgne.2.1), cell_set_far _ _ _ _ _ _ hdis.1]; exact qr, by simp only [cell_set_far _ _ _ _ _ _ (Ne.symm hgne.2.2.1), cell_set_far _ _ _ _ _ _ hdis.2]; exact qd⟩ (fun h => absurd h (by decide)) ?_
      clear hK K
      try simp only [Act.put, List.setIfInBounds_toArray, List.set_cons_zero, List.set_cons_succ]
      refine Until.wpU_done (by kernel_rfl) ?_ _
      refine NoPanic.normal ?_
      go_wp2
      go_end0
      obtain ⟨f1, f2, f3, f4, f5, f6, f7⟩ := items_fin (T := T) (n' := n2) (X := w2.alloc _) (loJ := wm.heap.size) hbam (by omega) (by intro k hk; have := HG.out; simp [av6] at hk; omega) (by simp [av6]) (by simp [av6]) hbne.1 hbv hown hne0 hrep hA2 hrep2 (by omega) (by omega) (fun k hk hkb => (Below.heap_alloc w2 _ k (by omega)).trans (hold k hk hkb)) (by simp) (fun k hk => Below.heap_alloc w2 _ k hk) hK2.os hK2.tape hK2.output hgrow3 hat3 hown3 (Or.inl rfl)
      exact ⟨rfl, obj_close hlo HI.out hb8 (fun gi hg => (ownsRow_ge hnm hg).1) hnn HM.out.1 HM.out.2.1 HM.out.2.2.1 HM.out.2.2.2.1 HM.out.2.2.2.2.1 HM.out.2.2.2.2.2.1 m10 HM.out.2.2.2.2.2.2 (fun gi hg => (ownsRow_ge hown hg).1) hne0 f1 f3 f4 f5 f6 f7, f2, by omega, hl2⟩
    · go_simp
      refine hK.out _ _ ⟨by rw [cell_set_far _ _ _ _ _ _ hdis.1]; exact qr, by rw [cell_set_far _ _ _ _ _ _ hdis.2]; exact qd⟩ (fun h => absurd h (by decide)) ?_
      clear hK K
      try simp only [Act.put, List.setIfInBounds_toArray, List.set_cons_zero, List.set_cons_succ]
      refine Until.wpU_ready (rs := [10]) (by kernel_rfl) (by simp) ?_
      refine Until.AllU.cons (o := { dst := none, op := Op.store 25 (Operand.tmp 21) (Operand.tmp 17), type := 0, pos := "read.go:148", after := #[{ on := 9, ground := Ground.data }, { on := 5, ground := Ground.data }, { on := 8, ground := Ground.chain }, { on := 0, ground := Ground.phase }, { on := 1, ground := Ground.phase }, { on := 2, ground := Ground.phase }, { on := 3, ground := Ground.phase }, { on := 4, ground := Ground.phase }, { on := 5, ground := Ground.phase }, { on := 6, ground := Ground.phase }, { on := 7, ground := Ground.phase }, { on := 8, ground := Ground.phase }, { on := 12, ground := Ground.gcOnly Departure.appendInPlace }], guard := none }) rfl (fun K hK => ?_) Until.AllU.nil
      go_simp
      refine hK.out _ _ ⟨by simp only [cell_set_far _ _ _ _ _ _ (Ne.symm hgne.2.1), cell_set_far _ _ _ _ _ _ hdis.1]; exact qr, by simp only [cell_set_far _ _ _ _ _ _ (Ne.symm hgne.2.2.1), cell_set_far _ _ _ _ _ _ hdis.2]; exact qd⟩ (fun h => absurd h (by decide)) ?_
      clear hK K
      try simp only [Act.put, List.setIfInBounds_toArray, List.set_cons_zero, List.set_cons_succ]
      refine Until.wpU_done (by kernel_rfl) ?_ _
      refine NoPanic.normal ?_
      go_wp2
      go_end0
      obtain ⟨f1, f2, f3, f4, f5, f6, f7⟩ := items_fin (T := T) (n' := n2) (X := w2.alloc _) (loJ := wm.heap.size) hbam (by omega) (by intro k hk; have := HG.out; simp [av6] at hk; omega) (by simp [av6]) (by simp [av6]) hbne.1 hbv hown hne0 hrep hA2 hrep2 (by omega) (by omega) (fun k hk hkb => (Below.heap_alloc w2 _ k (by omega)).trans (hold k hk hkb)) (by simp) (fun k hk => Below.heap_alloc w2 _ k hk) hK2.os hK2.tape hK2.output hgrow3 hat3 hown3 (Or.inr rfl)
      exact ⟨rfl, obj_close hlo HI.out hb8 (fun gi hg => (ownsRow_ge hnm hg).1) hnn HM.out.1 HM.out.2.1 HM.out.2.2.1 HM.out.2.2.2.1 HM.out.2.2.2.2.1 HM.out.2.2.2.2.2.1 m10 HM.out.2.2.2.2.2.2 (fun gi hg => (ownsRow_ge hown hg).1) hne0 f1 f3 f4 f5 f6 f7, f2, by omega, hl2⟩
  · go_simp
    refine hK.out _ _ ⟨(World.cell?_of_block (w := wm) (a := ⟨br, 0, none⟩) (Below.heap_alloc _ _ _ lo5)).trans cr, (World.cell?_of_block (w := wm) (a := ⟨bd, 0, none⟩) (Below.heap_alloc _ _ _ lo6)).trans cd⟩ (fun _ => (World.cell?_of_block (w := wm) (a := ⟨bv, 4, none⟩) (Below.heap_alloc _ _ _ lo4)).trans c4) ?_
    clear hK K
    try simp only [Act.put, List.setIfInBounds_toArray, List.set_cons_zero, List.set_cons_succ]
    refine Until.wpU_ready (rs := [5]) (by kernel_rfl) (by simp) ?_
    refine Until.AllU.cons (o := { dst := some 17, op := Op.call { callee := Callee.value (Operand.func 42), args := #[Operand.tmp 14, Operand.tmp 16], argTypes := #[72, 3] }, type := 25, pos := "read.go:148", after := #[{ on := 2, ground := Ground.data }, { on := 4, ground := Ground.data }], guard := none }) rfl (fun K hK => ?_) Until.AllU.nil
    go_simp
    refine (hV b n1 (d + 1) _ ((m6.alloc _).drew) ((hEm.alloc _).drew) hb8 hm2 HD.out).mono ?_
    intro e w2 hp; rw [HR.out] at hp; obtain ⟨kd, x, ss, a1, l1, c1, a2, l2, c2, rfl, hrep2, hA2, hK2, hl1, hl2⟩ := hp
    have hs2 : wm.heap.size + 1 ≤ w2.heap.size := by have := hK2.size; simpa using this
    have hold : ∀ gi, gi < wm.heap.size → gi ≠ b → w2.heap[gi]? = wm.heap[gi]? := fun gi hg hgb => (hK2.block gi (by simp; omega) hgb).trans (Below.heap_alloc _ _ _ hg)
    have hown2 : w2.ownsRow base 25 5 (.slice ao l.length cap) l.length xs := ownsRow_keep hown (fun gi hg => hold gi (ownsRow_ge hown hg).2 (hne gi hg).2.2.2)
    have g4 := (World.cell?_of_block (w := wm) (a := ⟨bv, 4, none⟩) (hold bv lo4 (Ne.symm hbne.1))).trans c4
    have gr := (World.cell?_of_block (w := wm) (a := ⟨br, 0, none⟩) (hold br lo5 (Ne.symm hbne.2.1))).trans cr
    have gd := (World.cell?_of_block (w := wm) (a := ⟨bd, 0, none⟩) (hold bd lo6 (Ne.symm hbne.2.2))).trans cd
    refine hK.out _ _ ⟨gr, gd⟩ (fun _ => g4) ?_
    clear hK K
    try simp only [Act.put, List.setIfInBounds_toArray, List.set_cons_zero, List.set_cons_succ]
    refine Until.wpU_ready (rs := [8]) (by kernel_rfl) (by simp) ?_
    refine Until.AllU.cons (o := { dst := some 20, op := Op.call { callee := Callee.builtin Builtin.append, args := #[Operand.tmp 13, Operand.tmp 19], argTypes := #[23, 23] }, type := 23, pos := "read.go:148", after := #[{ on := 1, ground := Ground.data }, { on := 7, ground := Ground.data }, { on := 5, ground := Ground.chain }, { on := 0, ground := Ground.phase }, { on := 1, ground := Ground.phase }, { on := 2, ground := Ground.phase }, { on := 3, ground := Ground.phase }, { on := 4, ground := Ground.phase }, { on := 5, ground := Ground.phase }, { on := 6, ground := Ground.phase }, { on := 7, ground := Ground.phase }], guard := none }) rfl (fun K hK => ?_) Until.AllU.nil
    refine step_append_lies _ (by rfl) _ _ 23 (by rfl) base 25 i0 _ 5 80 Tryz.underlying23 hi hz0 hz1 hz2 (by rfl) (by omega) _ l.length xs (by rfl) (hown2) _ 1 1 zer (by rfl) (by rfl) (World.news_of_block ((hK2.block wm.heap.size (by simp) (by omega)).trans (heap_alloc_new wm _))) zer1 (by omega) (by unfold maxLen; omega) (by omega) (by omega) _ rfl ?_
    intro gi cap4 w4 hown3 hgrow3 hat3 hlt3
    have q4 := (hgrow3.cell_far ⟨bv, 4, none⟩ (by show bv < _; omega) (fun h => (hne bv h.symm).1 rfl)).trans g4
    have qr := (hgrow3.cell_far ⟨br, 0, none⟩ (by show br < _; omega) (fun h => (hne br h.symm).2.1 rfl)).trans gr
    have qd := (hgrow3.cell_far ⟨bd, 0, none⟩ (by show bd < _; omega) (fun h => (hne bd h.symm).2.2.1 rfl)).trans gd
    have hxl : xs.length = l.length * 5 := hown.1
    have e0 : w4.cell? ⟨gi, l.length * 5, none⟩ = some (.int .i64 0) := (hown3.cellAt (l.length * 5) (by omega)).trans (zer_at xs _ 0 hxl (by omega))
    have e1 : w4.cell? ⟨gi, l.length * 5 + 1, none⟩ = some (.int .i64 0) := (hown3.cellAt (l.length * 5 + 1) (by omega)).trans (zer_at xs _ 1 hxl (by omega))
    have e2 : w4.cell? ⟨gi, l.length * 5 + 2, none⟩ = some (.string noS) := (hown3.cellAt (l.length * 5 + 2) (by omega)).trans (zer_at xs _ 2 hxl (by omega))
    have e3 : w4.cell? ⟨gi, l.length * 5 + 3, none⟩ = some nilS := (hown3.cellAt (l.length * 5 + 3) (by omega)).trans (zer_at xs _ 3 hxl (by omega))
    have e4 : w4.cell? ⟨gi, l.length * 5 + 4, none⟩ = some nilS := (hown3.cellAt (l.length * 5 + 4) (by omega)).trans (zer_at xs _ 4 hxl (by omega))
    have ef := fun jj => hown3.frozenAt jj
    have hgne : gi ≠ bv ∧ gi ≠ br ∧ gi ≠ bd ∧ gi ≠ b := hat3.elim (fun h => hne gi h) (fun h => by skip; omega)
    have HX : Hid (xs.length = l.length * 5) := hxl
    clear hxl
    have hgbv : bv ≠ gi := Ne.symm hgne.1
    have hbv3 : w4.heap[bv]? = wm.heap[bv]? := (hgrow3.block bv (by omega) (fun h => (hne bv h.symm).1 rfl)).trans (hold bv lo4 (Ne.symm hbne.1))
    have qf := frozen_of (hbv3.trans hbv) 4
    have sb1 := fun (X : World) (o : Nat) (v : Value) => cell_set_far X gi o 4 bv v hgbv
    have sb2 := fun (X : World) (o : Nat) (v : Value) => frozen_set_far X gi o 4 bv v hgbv
    have sb3 := fun (X : World) (o : Nat) (v : Value) => cell_set_far X bv 4 o gi v hgne.1
    have sb4 := fun (X : World) (o : Nat) (v : Value) => frozen_set_far X bv 4 o gi v hgne.1
    have HB : Hid (w4.heap[bv]? = wm.heap[bv]?) := hbv3
    clear hbv3
    have ib1 : (0 : Int) ≤ (l.length : Int) := by omega
    have ib2 : (l.length : Int) < ((l.length + 1 : Nat) : Int) := by omega
    have ib3 : (l.length : Int) < (l.length : Int) + 1 := by omega
    refine hK.out _ _ ⟨qr, qd⟩ (fun h => absurd h (by decide)) ?_
    clear hK K
    try simp only [Act.put, List.setIfInBounds_toArray, List.set_cons_zero, List.set_cons_succ]
    refine Until.wpU_pure (i := 9) (oi := { dst := some 21, op := Op.indexAddr 23 (Operand.tmp 20) (Operand.tmp 18), type := 0, pos := "read.go:148", after := #[{ on := 8, ground := Ground.data }, { on := 6, ground := Ground.data }, { on := 0, ground := Ground.phase }, { on := 1, ground := Ground.phase }, { on := 2, ground := Ground.phase }, { on := 3, ground := Ground.phase }, { on := 4, ground := Ground.phase }, { on := 5, ground := Ground.phase }, { on := 6, ground := Ground.phase }, { on := 7, ground := Ground.phase }, { on := 8, ground := Ground.phase }, { on := 12, ground := Ground.gcOnly Departure.appendInPlace }], guard := none }) (v := .pointer (some ⟨gi, l.length * 5, none⟩)) rfl (by kernel_rfl) (by kernel_rfl) (by kernel_rfl) (by kernel_rfl) (by kernel_rfl) (fun _ _ _ h => h) (⟨qr, qd⟩) (fun h => absurd h (by decide)) (by rfl) (by intro w'; go_simp) ?_
    try simp only [Act.put, List.setIfInBounds_toArray, List.set_cons_zero, List.set_cons_succ]
    refine Until.wpU_pure (i := 11) (oi := { dst := some 22, op := Op.fieldAddr 25 (Operand.tmp 0) 4, type := 0, pos := "read.go:148", after := #[{ on := 0, ground := Ground.phase }, { on := 1, ground := Ground.phase }, { on := 2, ground := Ground.phase }, { on := 3, ground := Ground.phase }, { on := 4, ground := Ground.phase }, { on := 5, ground := Ground.phase }, { on := 6, ground := Ground.phase }, { on := 7, ground := Ground.phase }, { on := 8, ground := Ground.phase }, { on := 9, ground := Ground.textOnly Departure.appendInPlace }, { on := 10, ground := Ground.textOnly Departure.appendInPlace }], guard := none }) (v := .pointer (some ⟨bv, 4, none⟩)) rfl (by kernel_rfl) (by kernel_rfl) (by kernel_rfl) (by kernel_rfl) (by kernel_rfl) (fun _ _ _ h => h) (⟨qr, qd⟩) (fun h => absurd h (by decide)) (by rfl) (by intro w'; go_simp) ?_
    try simp only [Act.put, List.setIfInBounds_toArray, List.set_cons_zero, List.set_cons_succ]
    refine Until.wpU_ready (rs := [10, 12]) (by kernel_rfl) (by simp) ?_
    refine Until.AllU.cons (o := { dst := none, op := Op.store 25 (Operand.tmp 21) (Operand.tmp 17), type := 0, pos := "read.go:148", after := #[{ on := 9, ground := Ground.data }, { on := 5, ground := Ground.data }, { on := 8, ground := Ground.chain }, { on := 0, ground := Ground.phase }, { on := 1, ground := Ground.phase }, { on := 2, ground := Ground.phase }, { on := 3, ground := Ground.phase }, { on := 4, ground := Ground.phase }, { on := 5, ground := Ground.phase }, { on := 6, ground := Ground.phase }, { on := 7, ground := Ground.phase }, { on := 8, ground := Ground.phase }, { on := 12, ground := Ground.gcOnly Departure.appendInPlace }], guard := none }) rfl (fun K hK => ?_) (Until.AllU.cons (o := { dst := none, op := Op.store 23 (Operand.tmp 22) (Operand.tmp 20), type := 0, pos := "read.go:148", after := #[{ on := 11, ground := Ground.data }, { on := 8, ground := Ground.data }, { on := 8, ground := Ground.chain }, { on := 10, ground := Ground.textOnly Departure.appendInPlace }, { on := 0, ground := Ground.phase }, { on := 1, ground := Ground.phase }, { on := 2, ground := Ground.phase }, { on := 3, ground := Ground.phase }, { on := 4, ground := Ground.phase }, { on := 5, ground := Ground.phase }, { on := 6, ground := Ground.phase }, { on := 7, ground := Ground.phase }, { on := 8, ground := Ground.phase }, { on := 9, ground := Ground.textOnly Departure.appendInPlace }, { on := 10, ground := Ground.textOnly Departure.appendInPlace }], guard := none }) rfl (fun K hK => ?_) Until.AllU.nil)
    · go_simp
      refine hK.out _ _ ⟨by simp only [cell_set_far _ _ _ _ _ _ (Ne.symm hgne.2.1)]; exact qr, by simp only [cell_set_far _ _ _ _ _ _ (Ne.symm hgne.2.2.1)]; exact qd⟩ (fun h => absurd h (by decide)) ?_
      clear hK K
      try simp only [Act.put, List.setIfInBounds_toArray, List.set_cons_zero, List.set_cons_succ]
      refine Until.wpU_ready (rs := [12]) (by kernel_rfl) (by simp) ?_
      refine Until.AllU.cons (o := { dst := none, op := Op.store 23 (Operand.tmp 22) (Operand.tmp 20), type := 0, pos := "read.go:148", after := #[{ on := 11, ground := Ground.data }, { on := 8, ground := Ground.data }, { on := 8, ground := Ground.chain }, { on := 10, ground := Ground.textOnly Departure.appendInPlace }, { on := 0, ground := Ground.phase }, { on := 1, ground := Ground.phase }, { on := 2, ground := Ground.phase }, { on := 3, ground := Ground.phase }, { on := 4, ground := Ground.phase }, { on := 5, ground := Ground.phase }, { on := 6, ground := Ground.phase }, { on := 7, ground := Ground.phase }, { on := 8, ground := Ground.phase }, { on := 9, ground := Ground.textOnly Departure.appendInPlace }, { on := 10, ground := Ground.textOnly Departure.appendInPlace }], guard := none }) rfl (fun K hK => ?_) Until.AllU.nil
      go_simp
      refine hK.out _ _ ⟨by simp only [cell_set_far _ _ _ _ _ _ (Ne.symm hgne.2.1), cell_set_far _ _ _ _ _ _ hdis.1]; exact qr, by simp only [cell_set_far _ _ _ _ _ _ (Ne.symm hgne.2.2.1), cell_set_far _ _ _ _ _ _ hdis.2]; exact qd⟩ (fun h => absurd h (by decide)) ?_
      clear hK K
      try simp only [Act.put, List.setIfInBounds_toArray, List.set_cons_zero, List.set_cons_succ]
      refine Until.wpU_done (by kernel_rfl) ?_ _
      refine NoPanic.normal ?_
      go_wp2
      go_end0
      obtain ⟨f1, f2, f3, f4, f5, f6, f7⟩ := items_fin (T := T) (n' := n2) (X := w2) (loJ := wm.heap.size + 1) hbam (by omega) (by intro k hk; have := HG.out; simp [av6] at hk; omega) (by simp [av6]) (by simp [av6]) hbne.1 hbv hown hne0 hrep hA2 (by simpa using hrep2) (by omega) (by omega) (hold) (Nat.le_refl _) (fun k _ => rfl) hK2.os hK2.tape hK2.output hgrow3 hat3 hown3 (Or.inl rfl)
      exact ⟨rfl, obj_close hlo HI.out hb8 (fun gi hg => (ownsRow_ge hnm hg).1) hnn HM.out.1 HM.out.2.1 HM.out.2.2.1 HM.out.2.2.2.1 HM.out.2.2.2.2.1 HM.out.2.2.2.2.2.1 m10 HM.out.2.2.2.2.2.2 (fun gi hg => (ownsRow_ge hown hg).1) hne0 f1 f3 f4 f5 f6 f7, f2, by omega, hl2⟩
    · go_simp
      refine hK.out _ _ ⟨by rw [cell_set_far _ _ _ _ _ _ hdis.1]; exact qr, by rw [cell_set_far _ _ _ _ _ _ hdis.2]; exact qd⟩ (fun h => absurd h (by decide)) ?_
      clear hK K
      try simp only [Act.put, List.setIfInBounds_toArray, List.set_cons_zero, List.set_cons_succ]
      refine Until.wpU_ready (rs := [10]) (by kernel_rfl) (by simp) ?_
      refine Until.AllU.cons (o := { dst := none, op := Op.store 25 (Operand.tmp 21) (Operand.tmp 17), type := 0, pos := "read.go:148", after := #[{ on := 9, ground := Ground.data }, { on := 5, ground := Ground.data }, { on := 8, ground := Ground.chain }, { on := 0, ground := Ground.phase }, { on := 1, ground := Ground.phase }, { on := 2, ground := Ground.phase }, { on := 3, ground := Ground.phase }, { on := 4, ground := Ground.phase }, { on := 5, ground := Ground.phase }, { on := 6, ground := Ground.phase }, { on := 7, ground := Ground.phase }, { on := 8, ground := Ground.phase }, { on := 12, ground := Ground.gcOnly Departure.appendInPlace }], guard := none }) rfl (fun K hK => ?_) Until.AllU.nil
      go_simp
      refine hK.out _ _ ⟨by simp only [cell_set_far _ _ _ _ _ _ (Ne.symm hgne.2.1), cell_set_far _ _ _ _ _ _ hdis.1]; exact qr, by simp only [cell_set_far _ _ _ _ _ _ (Ne.symm hgne.2.2.1), cell_set_far _ _ _ _ _ _ hdis.2]; exact qd⟩ (fun h => absurd h (by decide)) ?_
      clear hK K
      try simp only [Act.put, List.setIfInBounds_toArray, List.set_cons_zero, List.set_cons_succ]
      refine Until.wpU_done (by kernel_rfl) ?_ _
      refine NoPanic.normal ?_
      go_wp2
      go_end0
      obtain ⟨f1, f2, f3, f4, f5, f6, f7⟩ := items_fin (T := T) (n' := n2) (X := w2) (loJ := wm.heap.size + 1) hbam (by omega) (by intro k hk; have := HG.out; simp [av6] at hk; omega) (by simp [av6]) (by simp [av6]) hbne.1 hbv hown hne0 hrep hA2 (by simpa using hrep2) (by omega) (by omega) (hold) (Nat.le_refl _) (fun k _ => rfl) hK2.os hK2.tape hK2.output hgrow3 hat3 hown3 (Or.inr rfl)
      exact ⟨rfl, obj_close hlo HI.out hb8 (fun gi hg => (ownsRow_ge hnm hg).1) hnn HM.out.1 HM.out.2.1 HM.out.2.2.1 HM.out.2.2.2.1 HM.out.2.2.2.2.1 HM.out.2.2.2.2.2.1 m10 HM.out.2.2.2.2.2.2 (fun gi hg => (ownsRow_ge hown hg).1) hne0 f1 f3 f4 f5 f6 f7, f2, by omega, hl2⟩

set_option maxHeartbeats 2000000 in
theorem obj1_bad2 (base b bv br bd bh bm n k : Nat) (d : Int) (T : ByteArray) (tx : Nat → Res ByteArray) (hQ : QuotedOk T tx) (hV : ValOk T tx k) (hd0 : 0 ≤ d) (hd : d + 1 + k = 64) (ns : List ByteArray) (l : List J) (w0 wI w : World) (hlo : ObjLo base b bv br bd bh bm w0) (hI : ObjInv base b bv br bd bh bm d w0 wI (ns, l) w) (hA : At b T n w) (hn : n ≤ T.size) (hT : T.size ≤ 65536) (hlen0 : l.length ≤ n) (hb8 : 8 ≤ b) (s : ByteArray) (n1 : Nat) (er p : Nat) (HN : Hid (nameR T tx ns n = .ok s n1)) (HR : Hid (valR T tx k n1 = .bad er p)) :
    Calls Tryz.prog 89 #[.pointer (some ⟨bv, 0, none⟩), .pointer (some ⟨br, 0, none⟩), .pointer (some ⟨bh, 0, none⟩), .pointer (some ⟨bd, 0, none⟩)] w fun e w' => e = .panicked (faultC er p) ∧ Kp b w0 w' := by
  have HI : Hid (ObjInv base b bv br bd bh bm d w0 wI (ns, l) w) := hI
  obtain ⟨hE, hK, hb0, hba, hfx, hbr, hbd, hbh, hS0, heq, an, cn, hnm, hnn, hit0⟩ := hI
  have hS : SetAt bm ns w := hS0
  have hlen : ns.length ≤ 100000 := by have h : ns.length = l.length := heq; omega
  have HO : Hid (ItemsInv base bv (.int .i64 6) (.slice an ns.length cn) (av6 b bv br bd bh bm ++ (Value.slice an ns.length cn).ownBlock.toList) l w) := hit0
  obtain ⟨ao0, cap0, xs0, hbv, hown0, hne00, hrep0⟩ := hit0
  have hlv := hlo.lo
  have hhv := hlo.hi
  have hnv := hlo.ne
  have lv : bv < w.heap.size := by omega
  have lr : br < w.heap.size := by omega
  have lh : bh < w.heap.size := by omega
  have hbm : bm ≠ b := by omega
  have c3 : w.cell? ⟨bv, 3, none⟩ = some (.slice an ns.length cn) := cell_of hbv 3
  have cr : w.cell? ⟨br, 0, none⟩ = some (.pointer (some ⟨b, 0, none⟩)) := cell_of hbr 0
  have ch : w.cell? ⟨bh, 0, none⟩ = some (.map (some bm)) := cell_of hbh 0
  have hbl := hA.lt
  obtain ⟨i9, hi9, hz90, hz91, hz92⟩ := info_parts info9
  clear heq hS0 hown0 hne00 hrep0 hfx
  have dk : d ≤ 64 := by omega
  have hd2 : d + 1 ≤ 64 := by omega
  have HW : Hid (IntKind.i64.wrap (d + 1) = d + 1) := wrap_small _ (by omega) (by omega)
  have HD : Hid (d + 1 + k = 64) := hd
  clear hd
  go_enter Tryz.func89, Tryz.ntmps89
  go_wp2
  refine wp_region_noPanic ?_
  refine Until.wp_region_U (fun w' => w'.cell? ⟨br, 0, none⟩ = some (.pointer (some ⟨b, 0, none⟩)) ∧ w'.cell? ⟨bh, 0, none⟩ = some (.map (some bm))) (fun w' => w'.cell? ⟨bv, 3, none⟩ = some (.slice an ns.length cn)) 6 (by kernel_rfl) ?_
  refine Until.wpU_pure (i := 0) (oi := { dst := some 4, op := Op.fieldAddr 25 (Operand.tmp 0) 3, type := 0, pos := "read.go:147", after := #[], guard := none }) (v := .pointer (some ⟨bv, 3, none⟩)) rfl (by kernel_rfl) (by kernel_rfl) (by kernel_rfl) (by kernel_rfl) (by kernel_rfl) (fun _ _ _ h => h) (⟨cr, ch⟩) (fun _ => c3) (by rfl) (by intro w'; go_simp) ?_
  try simp only [Act.put, List.setIfInBounds_toArray, List.set_cons_zero, List.set_cons_succ]
  refine Until.wpU_load1 (i := 1) (oi := { dst := some 5, op := Op.load 22 (Operand.tmp 4), type := 22, pos := "read.go:147", after := #[{ on := 0, ground := Ground.data }], guard := none }) (v := .slice an ns.length cn) rfl (by kernel_rfl) (by kernel_rfl) (by kernel_rfl) (by kernel_rfl) (by kernel_rfl) (by kernel_rfl) (fun _ _ _ h => h) (⟨cr, ch⟩) (c3) (by rfl) (by intro w' hw'; (try dsimp only at hw'); go_simp) ?_
  try simp only [Act.put, List.setIfInBounds_toArray, List.set_cons_zero, List.set_cons_succ]
  refine Until.wpU_load0 (i := 2) (oi := { dst := some 6, op := Op.load 72 (Operand.tmp 1), type := 72, pos := "read.go:147", after := #[], guard := none }) (v := .pointer (some ⟨b, 0, none⟩)) rfl (by kernel_rfl) (by kernel_rfl) (by kernel_rfl) (by kernel_rfl) (by kernel_rfl) (fun _ _ _ h => h) (⟨cr, ch⟩) (fun _ => c3) (by rfl) (by intro w' hw'; (try dsimp only at hw'); go_simp) ?_
  try simp only [Act.put, List.setIfInBounds_toArray, List.set_cons_zero, List.set_cons_succ]
  refine Until.wpU_load0 (i := 3) (oi := { dst := some 7, op := Op.load 105 (Operand.tmp 2), type := 105, pos := "read.go:147", after := #[], guard := none }) (v := .map (some bm)) rfl (by kernel_rfl) (by kernel_rfl) (by kernel_rfl) (by kernel_rfl) (by kernel_rfl) (fun _ _ _ h => h) (⟨cr, ch⟩) (fun _ => c3) (by rfl) (by intro w' hw'; (try dsimp only at hw'); go_simp) ?_
  try simp only [Act.put, List.setIfInBounds_toArray, List.set_cons_zero, List.set_cons_succ]
  refine Until.wpU_ready (rs := [4]) (by kernel_rfl) (by simp) ?_
  refine Until.AllU.cons (o := { dst := some 8, op := Op.call { callee := Callee.value (Operand.func 90), args := #[Operand.tmp 6, Operand.tmp 7], argTypes := #[72, 105] }, type := 9, pos := "read.go:147", after := #[{ on := 2, ground := Ground.data }, { on := 3, ground := Ground.data }], guard := none }) rfl (fun K hKK => ?_) Until.AllU.nil
  go_simp
  refine (name_any b bm n T tx hQ ns w.drew hA hE.drew hb8 hbm hS hlen hn hT).mono ?_
  intro e w1 hp; rw [HN.out] at hp; obtain ⟨rfl, hss, hA1, hS1, hK1, hm1, hm2⟩ := hp
  have s1 : w.heap.size ≤ w1.heap.size := hK1.size
  have hk1 : ∀ k, k < w.heap.size → k ≠ b → k ≠ bm → w1.heap[k]? = w.heap[k]? := fun k hk a1 a2 => hK1.block k hk a1 a2
  have g3 := (World.cell?_of_block (w := w) (a := ⟨bv, 3, none⟩) (hk1 bv lv (by omega) (by omega))).trans c3
  have gr := (World.cell?_of_block (w := w) (a := ⟨br, 0, none⟩) (hk1 br lr (by omega) (by omega))).trans cr
  have gh := (World.cell?_of_block (w := w) (a := ⟨bh, 0, none⟩) (hk1 bh lh (by omega) (by omega))).trans ch
  have hown2 : w1.ownsRow base 9 1 (.slice an ns.length cn) ns.length (strs ns) := ownsRow_keep hnm (fun g hg => hk1 g (ownsRow_ge hnm hg).2 (fun e => hnn g hg (by simp [av6, e])) (fun e => hnn g hg (by simp [av6, e])))
  refine hKK.out _ _ ⟨gr, gh⟩ (fun _ => g3) ?_
  clear hKK K
  try simp only [Act.put, List.setIfInBounds_toArray, List.set_cons_zero, List.set_cons_succ]
  refine Until.wpU_ready (rs := [5]) (by kernel_rfl) (by simp) ?_
  refine Until.AllU.cons (o := { dst := some 9, op := Op.buildSlice 22 1 #[(0, Operand.tmp 8)], type := 22, pos := "read.go:147", after := #[{ on := 4, ground := Ground.data }], guard := none }) rfl (fun K hKK => ?_) Until.AllU.nil
  go_simp
  refine hKK.out _ _ ⟨(World.cell?_of_block (w := w1) (a := ⟨br, 0, none⟩) (Below.heap_alloc _ _ _ (show br < w1.heap.size by omega))).trans gr, (World.cell?_of_block (w := w1) (a := ⟨bh, 0, none⟩) (Below.heap_alloc _ _ _ (show bh < w1.heap.size by omega))).trans gh⟩ (fun _ => (World.cell?_of_block (w := w1) (a := ⟨bv, 3, none⟩) (Below.heap_alloc _ _ _ (show bv < w1.heap.size by omega))).trans g3) ?_
  clear hKK K
  try simp only [Act.put, List.setIfInBounds_toArray, List.set_cons_zero, List.set_cons_succ]
  refine Until.wpU_ready (rs := [6]) (by kernel_rfl) (by simp) ?_
  refine Until.AllU.cons (o := { dst := some 10, op := Op.call { callee := Callee.builtin Builtin.append, args := #[Operand.tmp 5, Operand.tmp 9], argTypes := #[22, 22] }, type := 22, pos := "read.go:147", after := #[{ on := 1, ground := Ground.data }, { on := 5, ground := Ground.data }, { on := 4, ground := Ground.chain }], guard := none }) rfl (fun K hKK => ?_) Until.AllU.nil
  refine step_append_lies _ (by rfl) _ _ 22 (by rfl) base 9 i9 _ 1 16 Tryz.underlying22 hi9 hz90 hz91 hz92 (by rfl) (by omega) _ ns.length (strs ns) (by rfl) (hown2.alloc _) _ 1 1 [.string s] (by rfl) (by rfl) (World.news_of_block (heap_alloc_new w1 _)) (by intro u hu; rw [List.mem_singleton.1 hu]; rfl) (by omega) (by unfold maxLen; omega) (by omega) (by simp only [World.size_alloc]; omega) _ rfl ?_
  intro g cap3 w3 hown3 hgrow3 hat3 hlt3
  have q3 := (hgrow3.cell_far ⟨bv, 3, none⟩ (by show bv < _; simp only [World.size_alloc]; omega) (fun h => hnn bv h.symm (by simp [av6]))).trans ((World.cell?_of_block (w := w1) (a := ⟨bv, 3, none⟩) (Below.heap_alloc _ _ _ (show bv < w1.heap.size by omega))).trans g3)
  have qr := (hgrow3.cell_far ⟨br, 0, none⟩ (by show br < _; simp only [World.size_alloc]; omega) (fun h => hnn br h.symm (by simp [av6]))).trans ((World.cell?_of_block (w := w1) (a := ⟨br, 0, none⟩) (Below.heap_alloc _ _ _ (show br < w1.heap.size by omega))).trans gr)
  have qh := (hgrow3.cell_far ⟨bh, 0, none⟩ (by show bh < _; simp only [World.size_alloc]; omega) (fun h => hnn bh h.symm (by simp [av6]))).trans ((World.cell?_of_block (w := w1) (a := ⟨bh, 0, none⟩) (Below.heap_alloc _ _ _ (show bh < w1.heap.size by omega))).trans gh)
  have qf : w3.frozen? ⟨bv, 3, none⟩ = false := frozen_of (((hgrow3.block bv (by simp only [World.size_alloc]; omega) (fun h => hnn bv h.symm (by simp [av6]))).trans ((Below.heap_alloc w1 _ bv (by omega)).trans (hk1 bv lv (by omega) (by omega)))).trans hbv) 3
  refine hKK.out _ _ ⟨qr, qh⟩ (fun h => absurd h (by decide)) ?_
  clear hKK K
  try simp only [Act.put, List.setIfInBounds_toArray, List.set_cons_zero, List.set_cons_succ]
  refine Until.wpU_pure (i := 7) (oi := { dst := some 11, op := Op.fieldAddr 25 (Operand.tmp 0) 3, type := 0, pos := "read.go:147", after := #[{ on := 0, ground := Ground.phase }, { on := 1, ground := Ground.phase }, { on := 2, ground := Ground.phase }, { on := 3, ground := Ground.phase }, { on := 4, ground := Ground.phase }, { on := 5, ground := Ground.phase }, { on := 6, ground := Ground.phase }], guard := none }) (v := .pointer (some ⟨bv, 3, none⟩)) rfl (by kernel_rfl) (by kernel_rfl) (by kernel_rfl) (by kernel_rfl) (by kernel_rfl) (fun _ _ _ h => h) (⟨qr, qh⟩) (fun h => absurd h (by decide)) (by rfl) (by intro w'; go_simp) ?_
  try simp only [Act.put, List.setIfInBounds_toArray, List.set_cons_zero, List.set_cons_succ]
  refine Until.wpU_ready (rs := [8]) (by kernel_rfl) (by simp) ?_
  refine Until.AllU.cons (o := { dst := none, op := Op.store 22 (Operand.tmp 11) (Operand.tmp 10), type := 0, pos := "read.go:147", after := #[{ on := 7, ground := Ground.data }, { on := 6, ground := Ground.data }, { on := 6, ground := Ground.chain }, { on := 0, ground := Ground.phase }, { on := 1, ground := Ground.phase }, { on := 2, ground := Ground.phase }, { on := 3, ground := Ground.phase }, { on := 4, ground := Ground.phase }, { on := 5, ground := Ground.phase }, { on := 6, ground := Ground.phase }], guard := none }) rfl (fun K hKK => ?_) Until.AllU.nil
  go_simp
  refine hKK.out _ _ ⟨by rw [cell_set_far _ _ _ _ _ _ hlo.ne.1]; exact qr, by rw [cell_set_far _ _ _ _ _ _ hlo.ne.2.2.1]; exact qh⟩ (fun h => absurd h (by decide)) ?_
  clear hKK K
  try simp only [Act.put, List.setIfInBounds_toArray, List.set_cons_zero, List.set_cons_succ]
  refine Until.wpU_done (by kernel_rfl) ?_ _
  refine NoPanic.normal ?_
  go_wp2
  obtain ⟨m1, m2, m3, m4, m5, m6, m7, m8, m9, m10, m11⟩ := names_fin (T := T) (n1 := n1) (X := w1.alloc _) hlo hb0 hba hnm hnn HO.out hA1 hS1 ⟨hK1.os, hK1.tape, hK1.output, hK1.size, hK1.block⟩ (by simp) (fun k hk => Below.heap_alloc w1 _ k hk) rfl rfl rfl hgrow3 hat3 hown3 rfl
  have hrm := m11 br lr (by omega) hnv.1 (by omega) (fun g0 h0 e => hnn g0 h0 (by simp [av6, e]))
  have hdm := m11 bd (by omega) (by omega) hnv.2.1 (by omega) (fun g0 h0 e => hnn g0 h0 (by simp [av6, e]))
  have hEm : Env (w3.setCell ⟨bv, 3, none⟩ (.slice (some ⟨g, 0, none⟩) (ns.length + 1) cap3)) := hE.keep (fun k hk => m11 k (by omega) (by omega) (by omega) (by omega) (fun g0 h0 => by have := (ownsRow_ge hnm h0).1; omega))
  have hKm : Kp b w0 (w3.setCell ⟨bv, 3, none⟩ (.slice (some ⟨g, 0, none⟩) (ns.length + 1) cap3)) := ⟨m7.trans hK.os, m8.trans hK.tape, m9.trans hK.output, Nat.le_trans hK.size m10, fun i hi hib => (m11 i (Nat.lt_of_lt_of_le hi hK.size) hib (by omega) (by omega) (fun g0 h0 => by have := (ownsRow_ge hnm h0).1; omega)).trans (hK.block i hi hib)⟩
  generalize w3.setCell ⟨bv, 3, none⟩ (.slice (some ⟨g, 0, none⟩) (ns.length + 1) cap3) = wm at *
  clear hown3 hgrow3 hat3 hlt3 q3 qr qh qf hown2 g3 gr gh hk1 hK1 hS1 hA1 s1 c3 cr ch hbv
  obtain ⟨ao, cap, xs, hbv, hown, hne0, hrep⟩ := m1
  have c4 : wm.cell? ⟨bv, 4, none⟩ = some (.slice ao l.length cap) := cell_of hbv 4
  have cr : wm.cell? ⟨br, 0, none⟩ = some (.pointer (some ⟨b, 0, none⟩)) := cell_of (hrm.trans hbr) 0
  have cd : wm.cell? ⟨bd, 0, none⟩ = some (.int .i64 d) := cell_of (hdm.trans hbd) 0
  have lo4 : bv < wm.heap.size := by omega
  have lo5 : br < wm.heap.size := by omega
  have lo6 : bd < wm.heap.size := by omega
  have hblm : b < wm.heap.size := by omega
  clear m2 m3 m4 m5 m7 m8 m9 m11 hrm hdm
  refine Until.wp_region_U (fun w' => w'.cell? ⟨br, 0, none⟩ = some (.pointer (some ⟨b, 0, none⟩)) ∧ w'.cell? ⟨bd, 0, none⟩ = some (.int .i64 d)) (fun w' => w'.cell? ⟨bv, 4, none⟩ = some (.slice ao l.length cap)) 8 (by kernel_rfl) ?_
  refine Until.wpU_pure (i := 0) (oi := { dst := some 12, op := Op.fieldAddr 25 (Operand.tmp 0) 4, type := 0, pos := "read.go:148", after := #[], guard := none }) (v := .pointer (some ⟨bv, 4, none⟩)) rfl (by kernel_rfl) (by kernel_rfl) (by kernel_rfl) (by kernel_rfl) (by kernel_rfl) (fun _ _ _ h => bp_put h) (⟨cr, cd⟩) (fun _ => c4) (by rfl) (by intro w'; go_simp) ?_
  try simp only [Act.put, List.setIfInBounds_toArray, List.set_cons_zero, List.set_cons_succ]
  refine Until.wpU_load1 (i := 1) (oi := { dst := some 13, op := Op.load 23 (Operand.tmp 12), type := 23, pos := "read.go:148", after := #[{ on := 0, ground := Ground.data }], guard := none }) (v := .slice ao l.length cap) rfl (by kernel_rfl) (by kernel_rfl) (by kernel_rfl) (by kernel_rfl) (by kernel_rfl) (by kernel_rfl) (fun _ _ _ h => bp_put h) (⟨cr, cd⟩) (c4) (by rfl) (by intro w' hw'; (try dsimp only at hw'); go_simp) ?_
  try simp only [Act.put, List.setIfInBounds_toArray, List.set_cons_zero, List.set_cons_succ]
  refine Until.wpU_load0 (i := 2) (oi := { dst := some 14, op := Op.load 72 (Operand.tmp 1), type := 72, pos := "read.go:148", after := #[], guard := none }) (v := .pointer (some ⟨b, 0, none⟩)) rfl (by kernel_rfl) (by kernel_rfl) (by kernel_rfl) (by kernel_rfl) (by kernel_rfl) (fun _ _ _ h => bp_put h) (⟨cr, cd⟩) (fun _ => c4) (by rfl) (by intro w' hw'; (try dsimp only at hw'); go_simp) ?_
  try simp only [Act.put, List.setIfInBounds_toArray, List.set_cons_zero, List.set_cons_succ]
  refine Until.wpU_load0 (i := 3) (oi := { dst := some 15, op := Op.load 3 (Operand.tmp 3), type := 3, pos := "read.go:148", after := #[], guard := none }) (v := .int .i64 d) rfl (by kernel_rfl) (by kernel_rfl) (by kernel_rfl) (by kernel_rfl) (by kernel_rfl) (fun _ _ _ h => bp_put h) (⟨cr, cd⟩) (fun _ => c4) (by rfl) (by intro w' hw'; (try dsimp only at hw'); go_simp) ?_
  try simp only [Act.put, List.setIfInBounds_toArray, List.set_cons_zero, List.set_cons_succ]
  refine Until.wpU_pure (i := 4) (oi := { dst := some 16, op := Op.binOp BinOp.add 3 (Operand.tmp 15) (Operand.const (Value.int IntKind.i64 1)) 3, type := 3, pos := "read.go:148", after := #[{ on := 3, ground := Ground.data }], guard := none }) (v := .int .i64 (d + 1)) rfl (by kernel_rfl) (by kernel_rfl) (by kernel_rfl) (by kernel_rfl) (by kernel_rfl) (fun _ _ _ h => bp_put h) (⟨cr, cd⟩) (fun _ => c4) (by rfl) (by intro w'; go_simp; rw [HW.out]) ?_
  try simp only [Act.put, List.setIfInBounds_toArray, List.set_cons_zero, List.set_cons_succ]
  refine Until.wpU_pure (i := 6) (oi := { dst := some 18, op := Op.call { callee := Callee.builtin Builtin.len, args := #[Operand.tmp 13], argTypes := #[23] }, type := 3, pos := "read.go:148", after := #[{ on := 1, ground := Ground.data }], guard := none }) (v := .int .i64 (l.length : Int)) rfl (by kernel_rfl) (by kernel_rfl) (by kernel_rfl) (by kernel_rfl) (by kernel_rfl) (fun _ _ _ h => bp_put h) (⟨cr, cd⟩) (fun _ => c4) (by rfl) (by intro w'; go_simp) ?_
  try simp only [Act.put, List.setIfInBounds_toArray, List.set_cons_zero, List.set_cons_succ]
  refine Until.wpU_ready (rs := [5, 7]) (by kernel_rfl) (by simp) ?_
  refine Until.AllU.cons (o := { dst := some 17, op := Op.call { callee := Callee.value (Operand.func 42), args := #[Operand.tmp 14, Operand.tmp 16], argTypes := #[72, 3] }, type := 25, pos := "read.go:148", after := #[{ on := 2, ground := Ground.data }, { on := 4, ground := Ground.data }], guard := none }) rfl (fun K hKK => ?_) (Until.AllU.cons (o := { dst := some 19, op := Op.buildSlice 23 1 #[(0, Operand.const (Value.agg #[Value.int IntKind.i64 0, Value.int IntKind.i64 0, Value.string { data := #[] }, Value.slice none 0 0, Value.slice none 0 0]))], type := 23, pos := "read.go:148", after := #[], guard := none }) rfl (fun K hKK => ?_) Until.AllU.nil)
  · go_simp
    refine (hV b n1 (d + 1) _ m6.drew hEm.drew hb8 hm2 HD.out).mono ?_
    intro e w2 hp; rw [HR.out] at hp; obtain ⟨rfl, hK2⟩ := hp
    exact ⟨rfl, rfl, hKm.drew.trans hK2⟩
  · go_simp
    refine hKK.out _ _ ⟨(World.cell?_of_block (w := wm) (a := ⟨br, 0, none⟩) (Below.heap_alloc _ _ _ lo5)).trans cr, (World.cell?_of_block (w := wm) (a := ⟨bd, 0, none⟩) (Below.heap_alloc _ _ _ lo6)).trans cd⟩ (fun _ => (World.cell?_of_block (w := wm) (a := ⟨bv, 4, none⟩) (Below.heap_alloc _ _ _ lo4)).trans c4) ?_
    clear hKK K
    try simp only [Act.put, List.setIfInBounds_toArray, List.set_cons_zero, List.set_cons_succ]
    refine Until.wpU_ready (rs := [5]) (by kernel_rfl) (by simp) ?_
    refine Until.AllU.cons (o := { dst := some 17, op := Op.call { callee := Callee.value (Operand.func 42), args := #[Operand.tmp 14, Operand.tmp 16], argTypes := #[72, 3] }, type := 25, pos := "read.go:148", after := #[{ on := 2, ground := Ground.data }, { on := 4, ground := Ground.data }], guard := none }) rfl (fun K hKK => ?_) Until.AllU.nil
    go_simp
    refine (hV b n1 (d + 1) _ (m6.alloc _).drew (hEm.alloc _).drew hb8 hm2 HD.out).mono ?_
    intro e w2 hp; rw [HR.out] at hp; obtain ⟨rfl, hK2⟩ := hp
    exact ⟨rfl, rfl, (hKm.alloc _).drew.trans hK2⟩
end Go.Proofs.YtnccaidlcaeeaaaGreatDoor
