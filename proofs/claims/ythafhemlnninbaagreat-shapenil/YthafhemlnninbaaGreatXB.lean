import Derived.Test.YthafhemlnninbaaGreatXA
import Derived.Test.YthafhemlnninbaaGreatSB
import Derived.Laws.MakeOwn
/-! Rows that are filled one by one; documents with their keys. -/
namespace Go.Proofs.YthafhemlnninbaaGreat.Tree
open Go Go.RowKit Go.Stab

/-- A block of cells that may be written. -/
def Blk (w : World) (b : Nat) (t : TypeId) (len : Nat) : Prop := ∃ cur, w.heap[b]? = some (.cells cur t (0, 0)) ∧ cur.size = len
theorem Blk.but {w w' : World} {b : Nat} {t : TypeId} {len : Nat} (h : Blk w b t len) (hb : Sorted.But b w w') : Blk w' b t len := by
  obtain ⟨cur, h1, h2⟩ := h
  obtain ⟨cur', h3, h4⟩ := hb.shape _ _ _ h1
  exact ⟨cur', h3, h4.trans h2⟩
theorem Blk.keep {w w' : World} {b : Nat} {t : TypeId} {len : Nat} (h : Blk w b t len) (hb : Below w.heap.size w w') : Blk w' b t len := h.but (Sorted.But.of_below hb)
theorem Blk.cell {w : World} {b : Nat} {t : TypeId} {len : Nat} (h : Blk w b t len) {j : Nat} (hj : j < len) : ∃ u, w.cell? ⟨b, j, none⟩ = some u := by
  obtain ⟨cur, h1, h2⟩ := h
  exact ⟨cur[j]'(by omega), by simp [World.cell?, h1]⟩
theorem Blk.soft {w : World} {b : Nat} {t : TypeId} {len : Nat} (h : Blk w b t len) (j : Nat) : w.frozen? ⟨b, j, none⟩ = false := by
  obtain ⟨cur, h1, h2⟩ := h
  simp [World.frozen?, h1]
theorem Blk.lt {w : World} {b : Nat} {t : TypeId} {len : Nat} (h : Blk w b t len) : b < w.heap.size := by
  obtain ⟨cur, h1, h2⟩ := h
  exact (Array.getElem?_eq_some_iff.1 h1).1
/-- Elements of m cells each, one behind the other. -/
def RowL (m : Nat) (ls : List (List Value)) (w : World) (b : Nat) : Prop := ∀ i cs, ls[i]? = some cs → CellsAt w b (i * m) cs
theorem RowL.nil (m : Nat) (w : World) (b : Nat) : RowL m [] w b := fun i cs h => by simp at h
theorem RowL.same {m : Nat} {ls : List (List Value)} {w w' : World} {b : Nat} (h : RowL m ls w b) (hb : w'.heap[b]? = w.heap[b]?) : RowL m ls w' b := fun i cs hi j u hj => (World.cell?_of_block hb).trans (h i cs hi j u hj)
theorem RowL.push {m : Nat} {ls : List (List Value)} {cs : List Value} {w : World} {b len : Nat} {t : TypeId} (h : RowL m ls w b) (hm : ∀ l ∈ ls, l.length = m) (hcs : cs.length = m) (hB : Blk w b t len) (hl : (ls.length + 1) * m ≤ len) :
    RowL m (ls ++ [cs]) (w.setCells b (ls.length * m) cs) b ∧ Sorted.But b w (w.setCells b (ls.length * m) cs) := by
  refine ⟨fun i ds hi j u hj => ?_, Sorted.setCells_but b _ _ _⟩
  have hlm : (ls.length + 1) * m = ls.length * m + m := by rw [Nat.add_mul, Nat.one_mul]
  rcases Nat.lt_or_ge i ls.length with h1 | h1
  · rw [List.getElem?_append_left h1] at hi
    have hjm : j < m := by rw [← hm ds (List.mem_of_getElem? hi)]; exact (List.getElem?_eq_some_iff.1 hj).1
    have him : (i + 1) * m ≤ ls.length * m := Nat.mul_le_mul_right m h1
    rw [Nat.add_mul, Nat.one_mul] at him
    rw [World.cell?_setCells_out b cs (ls.length * m) w ⟨b, i * m + j, none⟩ (fun _ _ => .inl (by show i * m + j < ls.length * m; omega))]
    exact h i ds hi j u hj
  · have hil := (List.getElem?_eq_some_iff.1 hi).1
    obtain rfl : i = ls.length := by simp at hil; omega
    rw [List.getElem?_append_right (Nat.le_refl _), Nat.sub_self] at hi
    have e : cs = ds := by simpa using hi
    subst e
    have hjl := (List.getElem?_eq_some_iff.1 hj).1
    have := World.cell?_setCells_in b cs (ls.length * m) w (fun r hr => by obtain ⟨u', hu'⟩ := hB.cell (j := ls.length * m + r) (by omega); rw [hu']; rfl) j hjl
    rw [this, (List.getElem?_eq_some_iff.1 hj).2]
theorem info_of {P : Program} {t : TypeId} {z : Value} {n m : Nat} (h : (P.info? t).map (fun i => (i.zero, i.size, i.bytes)) = some (some z, n, m)) : ∃ i, P.info? t = some i ∧ i.zero = some z ∧ i.size = n ∧ i.bytes = m := info_parts h
theorem AK : (Tryz.prog.info? 73).map (fun i => (i.zero, i.size, i.bytes)) = some (some (.agg #[.string ⟨#[]⟩, .int .i64 0, .int .i64 0, .int .i64 0, .string ⟨#[]⟩, .slice none 0 0, .slice none 0 0, .slice none 0 0]), 8, 128) := by kernel_rfl
theorem AD : (Tryz.prog.info? 50).map (fun i => (i.zero, i.size, i.bytes)) = some (some (.agg #[.string ⟨#[]⟩, .int .i64 0, .int .i64 0, .int .i64 0, .string ⟨#[]⟩, .slice none 0 0, .slice none 0 0]), 7, 104) := by kernel_rfl
theorem make_k (l : Nat) (hc : l * 128 ≤ 281474976710656) (w : World) : ∃ cur : Array Value, (Instr.makeSlice 71 (.int .i64 l) (.int .i64 l)).run Tryz.prog w = .ok (.slice (some ⟨w.heap.size, 0, none⟩) l l) (w.alloc (.cells cur 73)) ∧ cur.size = l * 8 := by
  obtain ⟨i, hi, hz0, hz1, hz2⟩ := info_parts AK
  have := run_make (P := Tryz.prog) w 71 73 i _ Tryz.underlying71 hi hz0 .i64 .i64 l l (by omega) (by omega) (by rw [hz2]; omega) (by omega)
  rw [hz1, Int.toNat_natCast] at this
  exact ⟨_, this, size_madeCells _ _⟩
theorem make_d (l : Nat) (hc : l * 104 ≤ 281474976710656) (w : World) : ∃ cur : Array Value, (Instr.makeSlice 26 (.int .i64 l) (.int .i64 l)).run Tryz.prog w = .ok (.slice (some ⟨w.heap.size, 0, none⟩) l l) (w.alloc (.cells cur 50)) ∧ cur.size = l * 7 := by
  obtain ⟨i, hi, hz0, hz1, hz2⟩ := info_parts AD
  have := run_make (P := Tryz.prog) w 26 50 i _ Tryz.underlying26 hi hz0 .i64 .i64 l l (by omega) (by omega) (by rw [hz2]; omega) (by omega)
  rw [hz1, Int.toNat_natCast] at this
  exact ⟨_, this, size_madeCells _ _⟩
/-- A document with its keys. -/
structure Kd where
  d : Dc
  ka : Option Addr
  kl : Nat
  kc : Nat
def Kd.keys (e : Kd) : Value := .slice e.ka e.kl e.kc
def Kd.cells (e : Kd) : List Value := [.string e.d.id, .int .i64 e.d.ver, .int .i64 e.d.k, .int .i64 e.d.x, .string e.d.s, .slice e.d.an e.d.ln e.d.cn, .slice e.d.ai e.d.li e.d.ci, .slice e.ka e.kl e.kc]
def encK {P : Kd → Prop} (e : {e : Kd // P e}) : Array Value := e.1.cells.toArray
theorem encK_ok {P : Kd → Prop} : Sorted.Enc (encK (P := P)) where
  size e := rfl
  one e := by unfold encK Kd.cells; simp [Value.oneCell']
theorem rowL_rowE {P : Kd → Prop} {w : World} {b len : Nat} {t : TypeId} {D : List {e : Kd // P e}} (h : RowL 8 (D.map (fun e => e.1.cells)) w b) (hB : Blk w b t len) (hl : D.length * 8 ≤ len) : Sorted.RowE encK w b D := fun i x hx => by
  have h1 := h i x.1.cells (by rw [List.getElem?_map, hx]; rfl)
  refine ⟨fun j u hj => h1 j u (by unfold encK at hj; simpa using hj), fun j hj => ⟨?_, hB.soft _⟩⟩
  have hil := (List.getElem?_eq_some_iff.1 hx).1
  obtain ⟨u, hu⟩ := hB.cell (j := i * 8 + j) (by omega)
  rw [hu]
  rfl
theorem rowE_cells {P : Kd → Prop} {w : World} {b : Nat} {D : List {e : Kd // P e}} (h : Sorted.RowE encK w b D) {i : Nat} {x : {e : Kd // P e}} (hx : D[i]? = some x) : CellsAt w b (i * 8) x.1.cells := fun j u hj => (h i x hx).1 j u (by unfold encK; simpa using hj)
theorem cells8 {w : World} {b o : Nat} {c0 c1 c2 c3 c4 c5 c6 c7 : Value} (h : CellsAt w b o [c0, c1, c2, c3, c4, c5, c6, c7]) : w.cell? ⟨b, o, none⟩ = some c0 ∧ w.cell? ⟨b, o + 1, none⟩ = some c1 ∧ w.cell? ⟨b, o + 2, none⟩ = some c2 ∧ w.cell? ⟨b, o + 3, none⟩ = some c3 ∧ w.cell? ⟨b, o + 4, none⟩ = some c4 ∧ w.cell? ⟨b, o + 5, none⟩ = some c5 ∧ w.cell? ⟨b, o + 6, none⟩ = some c6 ∧ w.cell? ⟨b, o + 7, none⟩ = some c7 := ⟨h 0 _ rfl, h 1 _ rfl, h 2 _ rfl, h 3 _ rfl, h 4 _ rfl, h 5 _ rfl, h 6 _ rfl, h 7 _ rfl⟩
theorem but_below {b : Nat} {w W : World} (h : Sorted.But b w W) (hb : w.heap.size ≤ b) : Below w.heap.size w W := ⟨h.os, h.tape, h.output, h.size, fun k hk => h.block k hk (by omega)⟩
set_option maxHeartbeats 8000000 in
set_option maxRecDepth 100000 in
/-- Order, given what keys are made, and how documents with keys are compared. -/
theorem order_any (rv : Value) (a : Option Addr) (c n : Nat) (ds : List Dc) (w : World) (lt : Dc → Dc → Bool) (O : Swo lt) (cn : Dc → Dc → Int) (hlt : ∀ x y, lt x y = decide (cn x y < 0)) (K : World → Kd → Prop)
    (hK : ∀ W W' e, K W e → Sorted.But w.heap.size W W' → K W' e)
    (hkeyed : ∀ d ∈ ds, ∀ W, Sorted.But w.heap.size w W → w.heap.size < W.heap.size → Calls Tryz.prog 36 #[rv, .agg d.cells.toArray] W fun e W' => ∃ q : Kd, e = .returned (.agg q.cells.toArray) ∧ q.d = d ∧ K W' q ∧ Below W.heap.size W W')
    (hcmp : ∀ x y W, Sorted.But w.heap.size w W → K W x → K W y → Calls Tryz.prog 38 #[rv, .agg x.cells.toArray, .agg y.cells.toArray] W fun e W' => e = .returned (.int .i64 (cn x.d y.d)) ∧ Below W.heap.size W W')
    (hn : ds.length = n) (hnn : n ≤ 1000000) (hV : DocsAt w a ds) :
    Calls Tryz.prog 14 #[rv, .slice a n c] w fun e w' => ∃ ob, e = .returned (.slice (some ⟨ob, 0, none⟩) n n) ∧ DocsAt w' (some ⟨ob, 0, none⟩) (isort lt ds) ∧ Below w.heap.size w w' := by
  obtain ⟨cur0, hmk0, hcs0⟩ := make_k n (by omega) w
  have n0 : (0 : Int) ≤ (n : Int) := by omega
  have n1 : (n : Int) ≤ 1000000 := by omega
  obtain ⟨W1, hW1⟩ : ∃ W1, Hid (w.alloc (.cells cur0 73) = W1) := ⟨_, rfl⟩
  rw [hW1.out] at hmk0
  have hg1 : Hid (Blk W1 w.heap.size 73 (n * 8)) := by rw [← hW1.out]; exact ⟨cur0, heap_alloc_new w _, hcs0⟩
  have hb1 : Hid (Sorted.But w.heap.size w W1) := by rw [← hW1.out]; exact ⟨rfl, rfl, rfl, by simp, fun k hk _ => Below.heap_alloc w _ k hk, fun cur t f h => by simp at h⟩
  have hs1 : Hid (w.heap.size < W1.heap.size) := hg1.out.lt
  clear hW1
  replace hn := hid_e hn
  replace hV := hid_e hV
  replace hK := hid_e hK
  replace hkeyed := hid_e hkeyed
  replace hcmp := hid_e hcmp
  replace hlt := hid_e hlt
  obtain ⟨rb, hrb⟩ : ∃ rb, Hid (w.heap.size = rb) := ⟨_, rfl⟩
  rw [hrb.out] at hmk0 hg1 hb1 hs1
  go_enter Tryz.func14, Tryz.ntmps14
  go_wp2_with fail
  go_loopw [6, 7, 16] (fun _ _ iv wr => ∃ (q : Nat) (es : List Kd), iv = .int .i64 q ∧ q ≤ n ∧ Hid (es.map (·.d) = ds.take q) ∧ Hid (∀ e ∈ es, K wr e) ∧ Hid (RowL 8 (es.map Kd.cells) wr rb) ∧ Hid (Blk wr rb 73 (n * 8)) ∧ Hid (Sorted.But rb w wr)) (fun _ _ iv _ => n - (intOf iv).toNat)
  case atStart => exact ⟨0, [], rfl, Nat.zero_le _, rfl, (fun e he => by cases he), RowL.nil _ _ _, hg1, hb1⟩
  case round =>
    clear hg1 hb1
    obtain ⟨q, es, rfl, hq, hes, hKe, hrow, hblk, hb⟩ := hrel
    have hel : Hid (es.length = q) := by have h := congrArg List.length hes.out; rw [List.length_map, List.length_take, hn.out] at h; show _ = _; omega
    by_cases hlt' : q < n
    · have q1 : (q : Int) < (n : Int) := by omega
      have q0 : (0 : Int) ≤ (q : Int) := by omega
      obtain ⟨d, hd⟩ : ∃ d, Hid (ds[q]? = some d) := ⟨ds[q]'(by rw [hn.out]; omega), List.getElem?_eq_getElem (by rw [hn.out]; omega)⟩
      obtain ⟨b, o, ea, hc1⟩ := (hV.out.keep (but_below hb.out (by rw [hrb.out]; exact Nat.le_refl _))) q d hd.out
      subst ea
      unfold Dc.cells at hc1
      obtain ⟨x0, x1, x2, x3, x4, x5, x6⟩ := cells7 hc1
      clear hc1
      have hrl : Hid (rb < wr.heap.size) := hblk.out.lt
      have call := hid_e (fun ob => hkeyed.out d (List.mem_of_getElem? hd.out) (wr.alloc ob) (by rw [hrb.out]; exact hb.out.trans (Sorted.But.of_below ((Below.refl _ wr).alloc (Nat.le_refl _) ob))) (by rw [hrb.out, World.size_alloc]; have := hrl.out; omega))
      unfold Dc.cells at call
      go_wp2_with fail
      refine (call.out _).mono ?_
      rintro e X ⟨kd, rfl, hkd, hKx, hbx'⟩
      have hbx : Hid (Below wr.heap.size wr X) := below_box hbx'
      have hbX : Hid (Blk X rb 73 (n * 8)) := hblk.out.keep hbx.out
      have hpush := hid_e ((hrow.out.same (hbx.out.block rb hrl.out)).push (cs := kd.cells) (by intro l hl; obtain ⟨e, -, rfl⟩ := List.mem_map.1 hl; rfl) rfl hbX.out (by rw [List.length_map, hel.out]; omega))
      rw [List.length_map, hel.out, show es.map Kd.cells ++ [kd.cells] = (es ++ [kd]).map Kd.cells by simp] at hpush
      have hbw := hid_e ((Sorted.But.of_below hbx.out).trans hpush.out.2)
      have hKe' : Hid (∀ e ∈ es ++ [kd], K (X.setCells rb (q * 8) kd.cells) e) := by
        intro e he
        rcases List.mem_append.1 he with he | he
        · exact hK.out _ _ e (hKe.out e he) (by rw [hrb.out]; exact hbw.out)
        · rw [List.mem_singleton.1 he]; exact hK.out _ _ kd hKx (by rw [hrb.out]; exact hpush.out.2)
      have hes' : Hid ((es ++ [kd]).map (·.d) = ds.take (q + 1)) := by show _ = _; rw [List.map_append, hes.out, List.take_add_one, hd.out]; simp [hkd]
      have hblk' := hid_e (hbX.out.but hpush.out.2)
      have hb' := hid_e (hb.out.trans hbw.out)
      obtain ⟨u0, m0⟩ := hbX.out.cell (j := q * 8) (by omega)
      obtain ⟨u1, m1⟩ := hbX.out.cell (j := q * 8 + 1) (by omega)
      obtain ⟨u2, m2⟩ := hbX.out.cell (j := q * 8 + 2) (by omega)
      obtain ⟨u3, m3⟩ := hbX.out.cell (j := q * 8 + 3) (by omega)
      obtain ⟨u4, m4⟩ := hbX.out.cell (j := q * 8 + 4) (by omega)
      obtain ⟨u5, m5⟩ := hbX.out.cell (j := q * 8 + 5) (by omega)
      obtain ⟨u6, m6⟩ := hbX.out.cell (j := q * 8 + 6) (by omega)
      obtain ⟨u7, m7⟩ := hbX.out.cell (j := q * 8 + 7) (by omega)
      have f0 := hbX.out.soft (q * 8)
      have f1 := hbX.out.soft (q * 8 + 1)
      have f2 := hbX.out.soft (q * 8 + 2)
      have f3 := hbX.out.soft (q * 8 + 3)
      have f4 := hbX.out.soft (q * 8 + 4)
      have f5 := hbX.out.soft (q * 8 + 5)
      have f6 := hbX.out.soft (q * 8 + 6)
      have f7 := hbX.out.soft (q * 8 + 7)
      unfold Kd.cells
      clear call x0 x1 x2 x3 x4 x5 x6 hKx hbx' hbx hbX hbw hkd hrow hblk hb hKe hes
      go_wp2_with fail
      exact ⟨⟨q + 1, es ++ [kd], by go_num, by omega, hes', hKe', hpush.out.1, hblk', hb'⟩, by simp [intOf]; omega⟩
    · obtain rfl : q = n := by omega
      have q1 : ¬ (q : Int) < (q : Int) := by omega
      rw [List.take_of_length_le (by rw [hn.out]; exact Nat.le_refl _)] at hes
      obtain ⟨D, hD⟩ : ∃ D : List {e : Kd // K wr e}, Hid (D.map (·.1) = es) := ⟨es.attachWith _ hKe.out, by show _ = _; simp⟩
      have hDl : Hid (D.length = q) := by rw [← hel.out, ← hD.out]; show _ = _; simp
      have hRow : Hid (Sorted.RowE encK wr rb D) := rowL_rowE (by rw [show D.map (fun e => e.1.cells) = (D.map (·.1)).map Kd.cells by simp, hD.out]; exact hrow.out) hblk.out (by rw [hDl.out]; exact Nat.le_refl _)
      have call := hid_e (Sorted.sort_any (rv := rv) encK_ok (b := rb) (w0 := wr) (lt := fun (x y : {e : Kd // K wr e}) => lt x.1.d y.1.d) ⟨fun x => O.irr x.1.d, fun x y z => O.tr x.1.d y.1.d z.1.d, fun x y z => O.neg x.1.d y.1.d z.1.d⟩ (fun x y => cn x.1.d y.1.d) (fun x y => hlt.out x.1.d y.1.d) (fun x y W hW => hcmp.out x.1 y.1 W (by rw [hrb.out]; exact hb.out.trans hW) (hK.out wr W x.1 x.2 (by rw [hrb.out]; exact hW)) (hK.out wr W y.1 y.2 (by rw [hrb.out]; exact hW))) D q q wr (Sorted.But.refl _ _) hRow.out hDl.out (by omega))
      have hrl : Hid (rb < wr.heap.size) := hblk.out.lt
      obtain ⟨SD, hSD⟩ : ∃ SD, Hid (isort (fun (x y : {e : Kd // K wr e}) => lt x.1.d y.1.d) D = SD) := ⟨_, rfl⟩
      have hSl : Hid (SD.length = q) := by rw [← hSD.out, ← hDl.out]; exact isort_length _ _
      have hSdoc : Hid (SD.map (fun x => x.1.d) = isort lt ds) := by
        show _ = _
        rw [← hSD.out, isort_map (lt' := lt) (fun x : {e : Kd // K wr e} => x.1.d) (fun _ _ => rfl) D, ← hes.out, ← hD.out]
        simp
      rw [hSD.out] at call
      clear hRow hrow hKe hes hel hblk hkeyed hcmp hlt hV hK hD
      go_wp2_with fail
      refine call.out.mono ?_
      rintro e X ⟨rfl, hRX, hBX⟩
      have hbX : Hid (Below w.heap.size w X) := (but_below hb.out (by rw [hrb.out]; exact Nat.le_refl _)).trans ((but_below (hb.out.trans hBX) (by rw [hrb.out]; exact Nat.le_refl _)).mono (Nat.le_refl _) |> fun h => ⟨hBX.os, hBX.tape, hBX.output, hBX.size, fun k hk => hBX.block k (by have := hrl.out; have := hrb.out; omega) (by have := hrb.out; omega)⟩)
      have hrX : Hid (rb < X.heap.size) := Nat.lt_of_lt_of_le hrl.out hBX.size
      replace hRX := hid_e hRX
      clear call hBX hb hrl
      obtain ⟨cur1, hmk1, hcs1⟩ := make_d q (by omega) X
      obtain ⟨X2, hX2⟩ : ∃ X2, Hid (X.alloc (.cells cur1 50) = X2) := ⟨_, rfl⟩
      rw [hX2.out] at hmk1
      have hgd : Hid (Blk X2 X.heap.size 50 (q * 7)) := by rw [← hX2.out]; exact ⟨cur1, heap_alloc_new X _, hcs1⟩
      have hbd : Hid (Below X.heap.size X X2) := by rw [← hX2.out]; exact (Below.refl _ X).alloc (Nat.le_refl _) _
      clear hX2
      obtain ⟨ob, hob⟩ : ∃ ob, Hid (X.heap.size = ob) := ⟨_, rfl⟩
      rw [hob.out] at hmk1 hgd
      go_wp2_with fail
      go_loopw [9, 10, 37] (fun _ _ iv wr => ∃ (p : Nat), iv = .int .i64 p ∧ p ≤ q ∧ Hid (RowL 7 ((SD.take p).map (fun x => x.1.d.cells)) wr ob) ∧ Hid (Blk wr ob 50 (q * 7)) ∧ Hid (Below X.heap.size X wr)) (fun _ _ iv _ => q - (intOf iv).toNat)
      case atStart => exact ⟨0, rfl, Nat.zero_le _, RowL.nil _ _ _, hgd, hbd⟩
      case round =>
        clear hgd hbd
        obtain ⟨p, rfl, hp, hrow, hblk, hb⟩ := hrel
        by_cases hpl : p < q
        · have p1 : (p : Int) < (q : Int) := by omega
          have p0 : (0 : Int) ≤ (p : Int) := by omega
          obtain ⟨kd, hkd⟩ : ∃ kd, Hid (SD[p]? = some kd) := ⟨SD[p]'(by rw [hSl.out]; omega), List.getElem?_eq_getElem (by rw [hSl.out]; omega)⟩
          have hc1 : CellsAt wr rb (p * 8) kd.1.cells := fun j u hj => (hb.out.cell (p := ⟨rb, p * 8 + j, none⟩) hrX.out).trans (rowE_cells hRX.out hkd.out j u hj)
          unfold Kd.cells at hc1
          obtain ⟨x0, x1, x2, x3, x4, x5, x6, x7⟩ := cells8 hc1
          clear hc1
          have hol : Hid (ob < wr.heap.size) := hblk.out.lt
          obtain ⟨Y, hY⟩ : ∃ Y, Hid (wr.alloc (.cells #[.string kd.1.d.id, .int .i64 kd.1.d.ver, .int .i64 kd.1.d.k, .int .i64 kd.1.d.x, .string kd.1.d.s, .slice kd.1.d.an kd.1.d.ln kd.1.d.cn, .slice kd.1.d.ai kd.1.d.li kd.1.d.ci, .slice kd.1.ka kd.1.kl kd.1.kc] 73) = Y) := ⟨_, rfl⟩
          have hbY : Hid (Below wr.heap.size wr Y) := by rw [← hY.out]; exact (Below.refl _ wr).alloc (Nat.le_refl _) _
          have hyc : ∀ j, Y.cell? ⟨wr.heap.size, j, none⟩ = #[.string kd.1.d.id, .int .i64 kd.1.d.ver, .int .i64 kd.1.d.k, .int .i64 kd.1.d.x, .string kd.1.d.s, .slice kd.1.d.an kd.1.d.ln kd.1.d.cn, .slice kd.1.d.ai kd.1.d.li kd.1.d.ci, Value.slice kd.1.ka kd.1.kl kd.1.kc][j]? := fun j => by rw [← hY.out]; unfold World.cell?; rw [heap_alloc_new wr]; rfl
          have y0 := hyc 0; have y1 := hyc 1; have y2 := hyc 2; have y3 := hyc 3; have y4 := hyc 4; have y5 := hyc 5; have y6 := hyc 6
          simp only [List.getElem?_toArray, List.getElem?_cons_zero, List.getElem?_cons_succ] at y0 y1 y2 y3 y4 y5 y6
          clear hyc
          have hblY : Hid (Blk Y ob 50 (q * 7)) := hblk.out.keep hbY.out
          have hpush := hid_e ((hrow.out.same (hbY.out.block ob hol.out)).push (cs := kd.1.d.cells) (by intro l hl; obtain ⟨e, -, rfl⟩ := List.mem_map.1 hl; rfl) rfl hblY.out (by rw [List.length_map, List.length_take, hSl.out]; omega))
          rw [List.length_map, List.length_take, hSl.out, Nat.min_eq_left (by omega)] at hpush
          have hrow' : Hid (RowL 7 ((SD.take (p + 1)).map (fun x => x.1.d.cells)) (Y.setCells ob (p * 7) kd.1.d.cells) ob) := by
            have h := hpush.out.1
            rw [show (SD.take p).map (fun x => x.1.d.cells) ++ [kd.1.d.cells] = (SD.take (p + 1)).map (fun x => x.1.d.cells) by rw [List.take_add_one, hkd.out]; simp] at h
            exact h
          have hblk' := hid_e (hblY.out.but hpush.out.2)
          have hb' : Hid (Below X.heap.size X (Y.setCells ob (p * 7) kd.1.d.cells)) := by
            have h2 := hpush.out.2
            exact (hb.out.trans (hbY.out.mono hb.out.size)).trans ⟨h2.os, h2.tape, h2.output, h2.size, fun k hk => h2.block k (by have := hb.out.size; have := hbY.out.size; omega) (by have := hob.out; omega)⟩
          obtain ⟨u0, m0⟩ := hblY.out.cell (j := p * 7) (by omega)
          obtain ⟨u1, m1⟩ := hblY.out.cell (j := p * 7 + 1) (by omega)
          obtain ⟨u2, m2⟩ := hblY.out.cell (j := p * 7 + 2) (by omega)
          obtain ⟨u3, m3⟩ := hblY.out.cell (j := p * 7 + 3) (by omega)
          obtain ⟨u4, m4⟩ := hblY.out.cell (j := p * 7 + 4) (by omega)
          obtain ⟨u5, m5⟩ := hblY.out.cell (j := p * 7 + 5) (by omega)
          obtain ⟨u6, m6⟩ := hblY.out.cell (j := p * 7 + 6) (by omega)
          have f0 := hblY.out.soft (p * 7)
          have f1 := hblY.out.soft (p * 7 + 1)
          have f2 := hblY.out.soft (p * 7 + 2)
          have f3 := hblY.out.soft (p * 7 + 3)
          have f4 := hblY.out.soft (p * 7 + 4)
          have f5 := hblY.out.soft (p * 7 + 5)
          have f6 := hblY.out.soft (p * 7 + 6)
          clear hpush hbY hblY hrow hblk hb hol
          go_wp2_with (first | rw [hY.out] | fail)
          exact ⟨⟨p + 1, by go_num, by omega, hrow', hblk', hb'⟩, by simp [intOf]; omega⟩
        · obtain rfl : p = q := by omega
          have p1 : ¬ (p : Int) < (p : Int) := by omega
          rw [List.take_of_length_le (by rw [hSl.out]; exact Nat.le_refl _)] at hrow
          have hfin : Hid (DocsAt wr (some ⟨ob, 0, none⟩) (isort lt ds)) := by
            intro i d hd
            rw [← hSdoc.out, List.getElem?_map] at hd
            obtain ⟨x, hx, rfl⟩ := Option.map_eq_some_iff.1 hd
            refine ⟨ob, 0, rfl, ?_⟩
            rw [Nat.zero_add]
            exact hrow.out i _ (by rw [List.getElem?_map, hx]; rfl)
          have hbF : Hid (Below w.heap.size w wr) := hbX.out.trans (hb.out.mono hbX.out.size)
          clear hrow hblk hb hRX
          go_wp2_with fail
          go_ret
          exact ⟨ob, rfl, hfin.out, hbF.out⟩
end Go.Proofs.YthafhemlnninbaaGreat.Tree
