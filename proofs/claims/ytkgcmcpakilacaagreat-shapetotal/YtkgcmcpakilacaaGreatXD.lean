import Derived.Test.YtkgcmcpakilacaaGreatXA
import Derived.Test.YtkgcmcpakilacaaGreatSB
import Derived.Laws.MakeOwn
import Derived.Deep.AppendSrc
import Derived.Deep.AppendLies
import Derived.Deep.RegionLaw
/-! Rows that are filled one by one; documents with their keys. -/
namespace Go.Proofs.YtkgcmcpakilacaaGreat.Tree
open Go Go.RowKit Go.Stab

/-- A block of cells that may be written. -/
def Blk (w : World) (b : Nat) (t : TypeId) (len : Nat) : Prop := ∃ cur, w.heap[b]? = some (.cells cur t (0, 0)) ∧ cur.size = len
theorem Blk.but {w w' : World} {b : Nat} {t : TypeId} {len : Nat} (h : Blk w b t len) (hb : Sorted.But b w w') : Blk w' b t len := by
  obtain ⟨cur, h1, h2⟩ := h
  obtain ⟨cur', h3, h4⟩ := hb.shape _ _ _ h1
  exact ⟨cur', h3, h4.trans h2⟩
theorem Blk.keep {w w' : World} {b : Nat} {t : TypeId} {len : Nat} (h : Blk w b t len) (hb : Below w.heap.size w w') : Blk w' b t len := h.but (Sorted.But.of_below hb)
theorem Blk.cell {w : World} {b : Nat} {t : TypeId} {len : Nat} (h : Blk w b t len) {j : Nat} (hj : j < len) : ∃ u, w.cell? ⟨b, j, none⟩ = some u := by
  obtain ⟨cur, h1, h2⟩ := h
  exact ⟨cur[j]'(by omega), by simp [World.cell?, h1]⟩
theorem Blk.soft {w : World} {b : Nat} {t : TypeId} {len : Nat} (h : Blk w b t len) (j : Nat) : w.frozen? ⟨b, j, none⟩ = false := by
  obtain ⟨cur, h1, h2⟩ := h
  simp [World.frozen?, h1]
theorem Blk.lt {w : World} {b : Nat} {t : TypeId} {len : Nat} (h : Blk w b t len) : b < w.heap.size := by
  obtain ⟨cur, h1, h2⟩ := h
  exact (Array.getElem?_eq_some_iff.1 h1).1
/-- Elements of m cells each, one behind the other. -/
def RowL (m : Nat) (ls : List (List Value)) (w : World) (b : Nat) : Prop := ∀ i cs, ls[i]? = some cs → CellsAt w b (i * m) cs
theorem RowL.nil (m : Nat) (w : World) (b : Nat) : RowL m [] w b := fun i cs h => by simp at h
theorem RowL.same {m : Nat} {ls : List (List Value)} {w w' : World} {b : Nat} (h : RowL m ls w b) (hb : w'.heap[b]? = w.heap[b]?) : RowL m ls w' b := fun i cs hi j u hj => (World.cell?_of_block hb).trans (h i cs hi j u hj)
theorem RowL.push {m : Nat} {ls : List (List Value)} {cs : List Value} {w : World} {b len : Nat} {t : TypeId} (h : RowL m ls w b) (hm : ∀ l ∈ ls, l.length = m) (hcs : cs.length = m) (hB : Blk w b t len) (hl : (ls.length + 1) * m ≤ len) :
    RowL m (ls ++ [cs]) (w.setCells b (ls.length * m) cs) b ∧ Sorted.But b w (w.setCells b (ls.length * m) cs) := by
  refine ⟨fun i ds hi j u hj => ?_, Sorted.setCells_but b _ _ _⟩
  have hlm : (ls.length + 1) * m = ls.length * m + m := by rw [Nat.add_mul, Nat.one_mul]
  rcases Nat.lt_or_ge i ls.length with h1 | h1
  · rw [List.getElem?_append_left h1] at hi
    have hjm : j < m := by rw [← hm ds (List.mem_of_getElem? hi)]; exact (List.getElem?_eq_some_iff.1 hj).1
    have him : (i + 1) * m ≤ ls.length * m := Nat.mul_le_mul_right m h1
    rw [Nat.add_mul, Nat.one_mul] at him
    rw [World.cell?_setCells_out b cs (ls.length * m) w ⟨b, i * m + j, none⟩ (fun _ _ => .inl (by show i * m + j < ls.length * m; omega))]
    exact h i ds hi j u hj
  · have hil := (List.getElem?_eq_some_iff.1 hi).1
    obtain rfl : i = ls.length := by simp at hil; omega
    rw [List.getElem?_append_right (Nat.le_refl _), Nat.sub_self] at hi
    have e : cs = ds := by simpa using hi
    subst e
    have hjl := (List.getElem?_eq_some_iff.1 hj).1
    have := World.cell?_setCells_in b cs (ls.length * m) w (fun r hr => by obtain ⟨u', hu'⟩ := hB.cell (j := ls.length * m + r) (by omega); rw [hu']; rfl) j hjl
    rw [this, (List.getElem?_eq_some_iff.1 hj).2]
theorem info_of {P : Program} {t : TypeId} {z : Value} {n m : Nat} (h : (P.info? t).map (fun i => (i.zero, i.size, i.bytes)) = some (some z, n, m)) : ∃ i, P.info? t = some i ∧ i.zero = some z ∧ i.size = n ∧ i.bytes = m := info_parts h
theorem AK : (Tryz.prog.info? 74).map (fun i => (i.zero, i.size, i.bytes)) = some (some (.agg #[.string ⟨#[]⟩, .int .i64 0, .int .i64 0, .int .i64 0, .string ⟨#[]⟩, .slice none 0 0, .slice none 0 0, .slice none 0 0]), 8, 128) := by kernel_rfl
theorem AD : (Tryz.prog.info? 50).map (fun i => (i.zero, i.size, i.bytes)) = some (some (.agg #[.string ⟨#[]⟩, .int .i64 0, .int .i64 0, .int .i64 0, .string ⟨#[]⟩, .slice none 0 0, .slice none 0 0]), 7, 104) := by kernel_rfl
theorem make_k (l : Nat) (hc : l * 128 ≤ 281474976710656) (w : World) : ∃ cur : Array Value, (Instr.makeSlice 72 (.int .i64 l) (.int .i64 l)).run Tryz.prog w = .ok (.slice (some ⟨w.heap.size, 0, none⟩) l l) (w.alloc (.cells cur 74)) ∧ cur.size = l * 8 := by
  obtain ⟨i, hi, hz0, hz1, hz2⟩ := info_parts AK
  have := run_make (P := Tryz.prog) w 72 74 i _ Tryz.underlying72 hi hz0 .i64 .i64 l l (by omega) (by omega) (by rw [hz2]; omega) (by omega)
  rw [hz1, Int.toNat_natCast] at this
  exact ⟨_, this, size_madeCells _ _⟩
theorem make_d (l : Nat) (hc : l * 104 ≤ 281474976710656) (w : World) : ∃ cur : Array Value, (Instr.makeSlice 26 (.int .i64 l) (.int .i64 l)).run Tryz.prog w = .ok (.slice (some ⟨w.heap.size, 0, none⟩) l l) (w.alloc (.cells cur 50)) ∧ cur.size = l * 7 := by
  obtain ⟨i, hi, hz0, hz1, hz2⟩ := info_parts AD
  have := run_make (P := Tryz.prog) w 26 50 i _ Tryz.underlying26 hi hz0 .i64 .i64 l l (by omega) (by omega) (by rw [hz2]; omega) (by omega)
  rw [hz1, Int.toNat_natCast] at this
  exact ⟨_, this, size_madeCells _ _⟩
/-- A document with its keys. -/
structure Kd where
  d : Dc
  ka : Option Addr
  kl : Nat
  kc : Nat
def Kd.keys (e : Kd) : Value := .slice e.ka e.kl e.kc
def Kd.cells (e : Kd) : List Value := [.string e.d.id, .int .i64 e.d.ver, .int .i64 e.d.k, .int .i64 e.d.x, .string e.d.s, .slice e.d.an e.d.ln e.d.cn, .slice e.d.ai e.d.li e.d.ci, .slice e.ka e.kl e.kc]
def encK {P : Kd → Prop} (e : {e : Kd // P e}) : Array Value := e.1.cells.toArray
theorem encK_ok {P : Kd → Prop} : Sorted.Enc (encK (P := P)) where
  size e := rfl
  one e := by unfold encK Kd.cells; simp [Value.oneCell']
theorem rowL_rowE {P : Kd → Prop} {w : World} {b len : Nat} {t : TypeId} {D : List {e : Kd // P e}} (h : RowL 8 (D.map (fun e => e.1.cells)) w b) (hB : Blk w b t len) (hl : D.length * 8 ≤ len) : Sorted.RowE encK w b D := fun i x hx => by
  have h1 := h i x.1.cells (by rw [List.getElem?_map, hx]; rfl)
  refine ⟨fun j u hj => h1 j u (by unfold encK at hj; simpa using hj), fun j hj => ⟨?_, hB.soft _⟩⟩
  have hil := (List.getElem?_eq_some_iff.1 hx).1
  obtain ⟨u, hu⟩ := hB.cell (j := i * 8 + j) (by omega)
  rw [hu]
  rfl
theorem rowE_cells {P : Kd → Prop} {w : World} {b : Nat} {D : List {e : Kd // P e}} (h : Sorted.RowE encK w b D) {i : Nat} {x : {e : Kd // P e}} (hx : D[i]? = some x) : CellsAt w b (i * 8) x.1.cells := fun j u hj => (h i x hx).1 j u (by unfold encK; simpa using hj)
theorem cells8 {w : World} {b o : Nat} {c0 c1 c2 c3 c4 c5 c6 c7 : Value} (h : CellsAt w b o [c0, c1, c2, c3, c4, c5, c6, c7]) : w.cell? ⟨b, o, none⟩ = some c0 ∧ w.cell? ⟨b, o + 1, none⟩ = some c1 ∧ w.cell? ⟨b, o + 2, none⟩ = some c2 ∧ w.cell? ⟨b, o + 3, none⟩ = some c3 ∧ w.cell? ⟨b, o + 4, none⟩ = some c4 ∧ w.cell? ⟨b, o + 5, none⟩ = some c5 ∧ w.cell? ⟨b, o + 6, none⟩ = some c6 ∧ w.cell? ⟨b, o + 7, none⟩ = some c7 := ⟨h 0 _ rfl, h 1 _ rfl, h 2 _ rfl, h 3 _ rfl, h 4 _ rfl, h 5 _ rfl, h 6 _ rfl, h 7 _ rfl⟩
theorem but_below {b : Nat} {w W : World} (h : Sorted.But b w W) (hb : w.heap.size ≤ b) : Below w.heap.size w W := ⟨h.os, h.tape, h.output, h.size, fun k hk => h.block k hk (by omega)⟩
set_option maxHeartbeats 8000000 in
set_option maxRecDepth 100000 in
/-- Order, given what keys are made, and how documents with keys are compared. -/
theorem order_any (rv : Value) (a : Option Addr) (c n : Nat) (ds : List Dc) (w : World) (lt : Dc → Dc → Bool) (O : Swo lt) (cn : Dc → Dc → Int) (hlt : ∀ x y, lt x y = decide (cn x y < 0)) (K : World → Kd → Prop)
    (hK : ∀ W W' e, K W e → Sorted.But w.heap.size W W' → K W' e)
    (hkeyed : ∀ d ∈ ds, ∀ W, Sorted.But w.heap.size w W → w.heap.size < W.heap.size → Calls Tryz.prog 38 #[rv, .agg d.cells.toArray] W fun e W' => ∃ q : Kd, e = .returned (.agg q.cells.toArray) ∧ q.d = d ∧ K W' q ∧ Below W.heap.size W W')
    (hcmp : ∀ x y W, Sorted.But w.heap.size w W → K W x → K W y → Calls Tryz.prog 40 #[rv, .agg x.cells.toArray, .agg y.cells.toArray] W fun e W' => e = .returned (.int .i64 (cn x.d y.d)) ∧ Below W.heap.size W W')
    (hn : ds.length = n) (hnn : n ≤ 1000000) (hV : DocsAt w a ds) :
    Calls Tryz.prog 15 #[rv, .slice a n c] w fun e w' => ∃ ob, e = .returned (.slice (some ⟨ob, 0, none⟩) n n) ∧ DocsAt w' (some ⟨ob, 0, none⟩) (isort lt ds) ∧ Below w.heap.size w w' := by
  obtain ⟨cur0, hmk0, hcs0⟩ := make_k n (by omega) w
  have n0 : (0 : Int) ≤ (n : Int) := by omega
  have n1 : (n : Int) ≤ 1000000 := by omega
  obtain ⟨W1, hW1⟩ : ∃ W1, Hid (w.alloc (.cells cur0 74) = W1) := ⟨_, rfl⟩
  rw [hW1.out] at hmk0
  have hg1 : Hid (Blk W1 w.heap.size 74 (n * 8)) := by rw [← hW1.out]; exact ⟨cur0, heap_alloc_new w _, hcs0⟩
  have hb1 : Hid (Sorted.But w.heap.size w W1) := by rw [← hW1.out]; exact ⟨rfl, rfl, rfl, by simp, fun k hk _ => Below.heap_alloc w _ k hk, fun cur t f h => by simp at h⟩
  have hs1 : Hid (w.heap.size < W1.heap.size) := hg1.out.lt
  clear hW1
  replace hn := hid_e hn
  replace hV := hid_e hV
  replace hK := hid_e hK
  replace hkeyed := hid_e hkeyed
  replace hcmp := hid_e hcmp
  replace hlt := hid_e hlt
  obtain ⟨rb, hrb⟩ : ∃ rb, Hid (w.heap.size = rb) := ⟨_, rfl⟩
  rw [hrb.out] at hmk0 hg1 hb1 hs1
  go_enter Tryz.func15, Tryz.ntmps15
  go_wp2_with fail
  go_loopw [6, 7, 16] (fun _ _ iv wr => ∃ (q : Nat) (es : List Kd), iv = .int .i64 q ∧ q ≤ n ∧ Hid (es.map (·.d) = ds.take q) ∧ Hid (∀ e ∈ es, K wr e) ∧ Hid (RowL 8 (es.map Kd.cells) wr rb) ∧ Hid (Blk wr rb 74 (n * 8)) ∧ Hid (Sorted.But rb w wr)) (fun _ _ iv _ => n - (intOf iv).toNat)
  case atStart => exact ⟨0, [], rfl, Nat.zero_le _, rfl, (fun e he => by cases he), RowL.nil _ _ _, hg1, hb1⟩
  case round =>
    clear hg1 hb1
    obtain ⟨q, es, rfl, hq, hes, hKe, hrow, hblk, hb⟩ := hrel
    have hel : Hid (es.length = q) := by have h := congrArg List.length hes.out; rw [List.length_map, List.length_take, hn.out] at h; show _ = _; omega
    by_cases hlt' : q < n
    · have q1 : (q : Int) < (n : Int) := by omega
      have q0 : (0 : Int) ≤ (q : Int) := by omega
      obtain ⟨d, hd⟩ : ∃ d, Hid (ds[q]? = some d) := ⟨ds[q]'(by rw [hn.out]; omega), List.getElem?_eq_getElem (by rw [hn.out]; omega)⟩
      obtain ⟨b, o, ea, hc1⟩ := (hV.out.keep (but_below hb.out (by rw [hrb.out]; exact Nat.le_refl _))) q d hd.out
      subst ea
      unfold Dc.cells at hc1
      obtain ⟨x0, x1, x2, x3, x4, x5, x6⟩ := cells7 hc1
      clear hc1
      have hrl : Hid (rb < wr.heap.size) := hblk.out.lt
      have call := hid_e (fun ob => hkeyed.out d (List.mem_of_getElem? hd.out) (wr.alloc ob) (by rw [hrb.out]; exact hb.out.trans (Sorted.But.of_below ((Below.refl _ wr).alloc (Nat.le_refl _) ob))) (by rw [hrb.out, World.size_alloc]; have := hrl.out; omega))
      unfold Dc.cells at call
      go_wp2_with fail
      refine (call.out _).mono ?_
      rintro e X ⟨kd, rfl, hkd, hKx, hbx'⟩
      have hbx : Hid (Below wr.heap.size wr X) := below_box hbx'
      have hbX : Hid (Blk X rb 74 (n * 8)) := hblk.out.keep hbx.out
      have hpush := hid_e ((hrow.out.same (hbx.out.block rb hrl.out)).push (cs := kd.cells) (by intro l hl; obtain ⟨e, -, rfl⟩ := List.mem_map.1 hl; rfl) rfl hbX.out (by rw [List.length_map, hel.out]; omega))
      rw [List.length_map, hel.out, show es.map Kd.cells ++ [kd.cells] = (es ++ [kd]).map Kd.cells by simp] at hpush
      have hbw := hid_e ((Sorted.But.of_below hbx.out).trans hpush.out.2)
      have hKe' : Hid (∀ e ∈ es ++ [kd], K (X.setCells rb (q * 8) kd.cells) e) := by
        intro e he
        rcases List.mem_append.1 he with he | he
        · exact hK.out _ _ e (hKe.out e he) (by rw [hrb.out]; exact hbw.out)
        · rw [List.mem_singleton.1 he]; exact hK.out _ _ kd hKx (by rw [hrb.out]; exact hpush.out.2)
      have hes' : Hid ((es ++ [kd]).map (·.d) = ds.take (q + 1)) := by show _ = _; rw [List.map_append, hes.out, List.take_add_one, hd.out]; simp [hkd]
      have hblk' := hid_e (hbX.out.but hpush.out.2)
      have hb' := hid_e (hb.out.trans hbw.out)
      obtain ⟨u0, m0⟩ := hbX.out.cell (j := q * 8) (by omega)
      obtain ⟨u1, m1⟩ := hbX.out.cell (j := q * 8 + 1) (by omega)
      obtain ⟨u2, m2⟩ := hbX.out.cell (j := q * 8 + 2) (by omega)
      obtain ⟨u3, m3⟩ := hbX.out.cell (j := q * 8 + 3) (by omega)
      obtain ⟨u4, m4⟩ := hbX.out.cell (j := q * 8 + 4) (by omega)
      obtain ⟨u5, m5⟩ := hbX.out.cell (j := q * 8 + 5) (by omega)
      obtain ⟨u6, m6⟩ := hbX.out.cell (j := q * 8 + 6) (by omega)
      obtain ⟨u7, m7⟩ := hbX.out.cell (j := q * 8 + 7) (by omega)
      have f0 := hbX.out.soft (q * 8)
      have f1 := hbX.out.soft (q * 8 + 1)
      have f2 := hbX.out.soft (q * 8 + 2)
      have f3 := hbX.out.soft (q * 8 + 3)
      have f4 := hbX.out.soft (q * 8 + 4)
      have f5 := hbX.out.soft (q * 8 + 5)
      have f6 := hbX.out.soft (q * 8 + 6)
      have f7 := hbX.out.soft (q * 8 + 7)
      unfold Kd.cells
      clear call x0 x1 x2 x3 x4 x5 x6 hKx hbx' hbx hbX hbw hkd hrow hblk hb hKe hes
      go_wp2_with fail
      exact ⟨⟨q + 1, es ++ [kd], by go_num, by omega, hes', hKe', hpush.out.1, hblk', hb'⟩, by simp [intOf]; omega⟩
    · obtain rfl : q = n := by omega
      have q1 : ¬ (q : Int) < (q : Int) := by omega
      rw [List.take_of_length_le (by rw [hn.out]; exact Nat.le_refl _)] at hes
      obtain ⟨D, hD⟩ : ∃ D : List {e : Kd // K wr e}, Hid (D.map (·.1) = es) := ⟨es.attachWith _ hKe.out, by show _ = _; simp⟩
      have hDl : Hid (D.length = q) := by rw [← hel.out, ← hD.out]; show _ = _; simp
      have hRow : Hid (Sorted.RowE encK wr rb D) := rowL_rowE (by rw [show D.map (fun e => e.1.cells) = (D.map (·.1)).map Kd.cells by simp, hD.out]; exact hrow.out) hblk.out (by rw [hDl.out]; exact Nat.le_refl _)
      have call := hid_e (Sorted.sort_any (rv := rv) encK_ok (b := rb) (w0 := wr) (lt := fun (x y : {e : Kd // K wr e}) => lt x.1.d y.1.d) ⟨fun x => O.irr x.1.d, fun x y z => O.tr x.1.d y.1.d z.1.d, fun x y z => O.neg x.1.d y.1.d z.1.d⟩ (fun x y => cn x.1.d y.1.d) (fun x y => hlt.out x.1.d y.1.d) (fun x y W hW => hcmp.out x.1 y.1 W (by rw [hrb.out]; exact hb.out.trans hW) (hK.out wr W x.1 x.2 (by rw [hrb.out]; exact hW)) (hK.out wr W y.1 y.2 (by rw [hrb.out]; exact hW))) D q q wr (Sorted.But.refl _ _) hRow.out hDl.out (by omega))
      have hrl : Hid (rb < wr.heap.size) := hblk.out.lt
      obtain ⟨SD, hSD⟩ : ∃ SD, Hid (isort (fun (x y : {e : Kd // K wr e}) => lt x.1.d y.1.d) D = SD) := ⟨_, rfl⟩
      have hSl : Hid (SD.length = q) := by rw [← hSD.out, ← hDl.out]; exact isort_length _ _
      have hSdoc : Hid (SD.map (fun x => x.1.d) = isort lt ds) := by
        show _ = _
        rw [← hSD.out, isort_map (lt' := lt) (fun x : {e : Kd // K wr e} => x.1.d) (fun _ _ => rfl) D, ← hes.out, ← hD.out]
        simp
      rw [hSD.out] at call
      clear hRow hrow hKe hes hel hblk hkeyed hcmp hlt hV hK hD
      go_wp2_with fail
      refine call.out.mono ?_
      rintro e X ⟨rfl, hRX, hBX⟩
      have hbX : Hid (Below w.heap.size w X) := (but_below hb.out (by rw [hrb.out]; exact Nat.le_refl _)).trans ((but_below (hb.out.trans hBX) (by rw [hrb.out]; exact Nat.le_refl _)).mono (Nat.le_refl _) |> fun h => ⟨hBX.os, hBX.tape, hBX.output, hBX.size, fun k hk => hBX.block k (by have := hrl.out; have := hrb.out; omega) (by have := hrb.out; omega)⟩)
      have hrX : Hid (rb < X.heap.size) := Nat.lt_of_lt_of_le hrl.out hBX.size
      replace hRX := hid_e hRX
      clear call hBX hb hrl
      obtain ⟨cur1, hmk1, hcs1⟩ := make_d q (by omega) X
      obtain ⟨X2, hX2⟩ : ∃ X2, Hid (X.alloc (.cells cur1 50) = X2) := ⟨_, rfl⟩
      rw [hX2.out] at hmk1
      have hgd : Hid (Blk X2 X.heap.size 50 (q * 7)) := by rw [← hX2.out]; exact ⟨cur1, heap_alloc_new X _, hcs1⟩
      have hbd : Hid (Below X.heap.size X X2) := by rw [← hX2.out]; exact (Below.refl _ X).alloc (Nat.le_refl _) _
      clear hX2
      obtain ⟨ob, hob⟩ : ∃ ob, Hid (X.heap.size = ob) := ⟨_, rfl⟩
      rw [hob.out] at hmk1 hgd
      go_wp2_with fail
      go_loopw [9, 10, 37] (fun _ _ iv wr => ∃ (p : Nat), iv = .int .i64 p ∧ p ≤ q ∧ Hid (RowL 7 ((SD.take p).map (fun x => x.1.d.cells)) wr ob) ∧ Hid (Blk wr ob 50 (q * 7)) ∧ Hid (Below X.heap.size X wr)) (fun _ _ iv _ => q - (intOf iv).toNat)
      case atStart => exact ⟨0, rfl, Nat.zero_le _, RowL.nil _ _ _, hgd, hbd⟩
      case round =>
        clear hgd hbd
        obtain ⟨p, rfl, hp, hrow, hblk, hb⟩ := hrel
        by_cases hpl : p < q
        · have p1 : (p : Int) < (q : Int) := by omega
          have p0 : (0 : Int) ≤ (p : Int) := by omega
          obtain ⟨kd, hkd⟩ : ∃ kd, Hid (SD[p]? = some kd) := ⟨SD[p]'(by rw [hSl.out]; omega), List.getElem?_eq_getElem (by rw [hSl.out]; omega)⟩
          have hc1 : CellsAt wr rb (p * 8) kd.1.cells := fun j u hj => (hb.out.cell (p := ⟨rb, p * 8 + j, none⟩) hrX.out).trans (rowE_cells hRX.out hkd.out j u hj)
          unfold Kd.cells at hc1
          obtain ⟨x0, x1, x2, x3, x4, x5, x6, x7⟩ := cells8 hc1
          clear hc1
          have hol : Hid (ob < wr.heap.size) := hblk.out.lt
          obtain ⟨Y, hY⟩ : ∃ Y, Hid (wr.alloc (.cells #[.string kd.1.d.id, .int .i64 kd.1.d.ver, .int .i64 kd.1.d.k, .int .i64 kd.1.d.x, .string kd.1.d.s, .slice kd.1.d.an kd.1.d.ln kd.1.d.cn, .slice kd.1.d.ai kd.1.d.li kd.1.d.ci, .slice kd.1.ka kd.1.kl kd.1.kc] 74) = Y) := ⟨_, rfl⟩
          have hbY : Hid (Below wr.heap.size wr Y) := by rw [← hY.out]; exact (Below.refl _ wr).alloc (Nat.le_refl _) _
          have hyc : ∀ j, Y.cell? ⟨wr.heap.size, j, none⟩ = #[.string kd.1.d.id, .int .i64 kd.1.d.ver, .int .i64 kd.1.d.k, .int .i64 kd.1.d.x, .string kd.1.d.s, .slice kd.1.d.an kd.1.d.ln kd.1.d.cn, .slice kd.1.d.ai kd.1.d.li kd.1.d.ci, Value.slice kd.1.ka kd.1.kl kd.1.kc][j]? := fun j => by rw [← hY.out]; unfold World.cell?; rw [heap_alloc_new wr]; rfl
          have y0 := hyc 0; have y1 := hyc 1; have y2 := hyc 2; have y3 := hyc 3; have y4 := hyc 4; have y5 := hyc 5; have y6 := hyc 6
          simp only [List.getElem?_toArray, List.getElem?_cons_zero, List.getElem?_cons_succ] at y0 y1 y2 y3 y4 y5 y6
          clear hyc
          have hblY : Hid (Blk Y ob 50 (q * 7)) := hblk.out.keep hbY.out
          have hpush := hid_e ((hrow.out.same (hbY.out.block ob hol.out)).push (cs := kd.1.d.cells) (by intro l hl; obtain ⟨e, -, rfl⟩ := List.mem_map.1 hl; rfl) rfl hblY.out (by rw [List.length_map, List.length_take, hSl.out]; omega))
          rw [List.length_map, List.length_take, hSl.out, Nat.min_eq_left (by omega)] at hpush
          have hrow' : Hid (RowL 7 ((SD.take (p + 1)).map (fun x => x.1.d.cells)) (Y.setCells ob (p * 7) kd.1.d.cells) ob) := by
            have h := hpush.out.1
            rw [show (SD.take p).map (fun x => x.1.d.cells) ++ [kd.1.d.cells] = (SD.take (p + 1)).map (fun x => x.1.d.cells) by rw [List.take_add_one, hkd.out]; simp] at h
            exact h
          have hblk' := hid_e (hblY.out.but hpush.out.2)
          have hb' : Hid (Below X.heap.size X (Y.setCells ob (p * 7) kd.1.d.cells)) := by
            have h2 := hpush.out.2
            exact (hb.out.trans (hbY.out.mono hb.out.size)).trans ⟨h2.os, h2.tape, h2.output, h2.size, fun k hk => h2.block k (by have := hb.out.size; have := hbY.out.size; omega) (by have := hob.out; omega)⟩
          obtain ⟨u0, m0⟩ := hblY.out.cell (j := p * 7) (by omega)
          obtain ⟨u1, m1⟩ := hblY.out.cell (j := p * 7 + 1) (by omega)
          obtain ⟨u2, m2⟩ := hblY.out.cell (j := p * 7 + 2) (by omega)
          obtain ⟨u3, m3⟩ := hblY.out.cell (j := p * 7 + 3) (by omega)
          obtain ⟨u4, m4⟩ := hblY.out.cell (j := p * 7 + 4) (by omega)
          obtain ⟨u5, m5⟩ := hblY.out.cell (j := p * 7 + 5) (by omega)
          obtain ⟨u6, m6⟩ := hblY.out.cell (j := p * 7 + 6) (by omega)
          have f0 := hblY.out.soft (p * 7)
          have f1 := hblY.out.soft (p * 7 + 1)
          have f2 := hblY.out.soft (p * 7 + 2)
          have f3 := hblY.out.soft (p * 7 + 3)
          have f4 := hblY.out.soft (p * 7 + 4)
          have f5 := hblY.out.soft (p * 7 + 5)
          have f6 := hblY.out.soft (p * 7 + 6)
          clear hpush hbY hblY hrow hblk hb hol
          go_wp2_with (first | rw [hY.out] | fail)
          exact ⟨⟨p + 1, by go_num, by omega, hrow', hblk', hb'⟩, by simp [intOf]; omega⟩
        · obtain rfl : p = q := by omega
          have p1 : ¬ (p : Int) < (p : Int) := by omega
          rw [List.take_of_length_le (by rw [hSl.out]; exact Nat.le_refl _)] at hrow
          have hfin : Hid (DocsAt wr (some ⟨ob, 0, none⟩) (isort lt ds)) := by
            intro i d hd
            rw [← hSdoc.out, List.getElem?_map] at hd
            obtain ⟨x, hx, rfl⟩ := Option.map_eq_some_iff.1 hd
            refine ⟨ob, 0, rfl, ?_⟩
            rw [Nat.zero_add]
            exact hrow.out i _ (by rw [List.getElem?_map, hx]; rfl)
          have hbF : Hid (Below w.heap.size w wr) := hbX.out.trans (hb.out.mono hbX.out.size)
          clear hrow hblk hb hRX
          go_wp2_with fail
          go_ret
          exact ⟨ob, rfl, hfin.out, hbF.out⟩
end Go.Proofs.YtkgcmcpakilacaaGreat.Tree
/-! Sorting by taking the first least: the same as sorting by insertion. No program. -/
namespace Go.Stab
variable {α : Type}
theorem mergeL_head {lt : α → α → Bool} {x : α} {r : List α} : ∀ {l : List α}, (∀ a ∈ l, lt x a = true) → mergeL lt l (x :: r) = x :: mergeL lt l r
  | [], _ => by rw [nil_mergeL, nil_mergeL]
  | a :: l, h => by rw [mergeL_cons, h a (by simp), if_pos rfl]
theorem isort_first {lt : α → α → Bool} (S : Swo lt) {A B : List α} {x : α} (h1 : ∀ a ∈ A, lt x a = true) (h2 : ∀ b ∈ B, lt b x = false) : isort lt (A ++ x :: B) = x :: isort lt (A ++ B) := by
  have e1 : isort lt (x :: B) = x :: isort lt B := by
    have := isort_append S [x] B
    rw [List.singleton_append] at this
    rw [this, show isort lt [x] = [x] by simp [isort, mergeL]]
    exact mergeL_one lt x [] (isort lt B) (fun y h => by cases h) (fun y h => h2 y ((isort_perm lt B).mem_iff.1 h))
  rw [isort_append S, e1, isort_append S, mergeL_head (fun a h => h1 a ((isort_perm lt A).mem_iff.1 h))]
/-- The first least of the first i. -/
structure Fst (lt : α → α → Bool) (l : List α) (p i : Nat) : Prop where
  pi : p < i
  il : i ≤ l.length
  low : ∀ j x y, j < p → l[j]? = some y → l[p]? = some x → lt x y = true
  high : ∀ j x y, p < j → j < i → l[j]? = some y → l[p]? = some x → lt y x = false
theorem Fst.one {lt : α → α → Bool} {l : List α} (h : 0 < l.length) : Fst lt l 0 1 := ⟨by omega, by omega, fun j _ _ h => by omega, fun j _ _ h h' => by omega⟩
theorem Fst.next {lt : α → α → Bool} (S : Swo lt) {l : List α} {p i : Nat} {x y : α} (h : Fst lt l p i) (hy : l[i]? = some y) (hx : l[p]? = some x) (hlt : lt y x = true) : Fst lt l i (i + 1) := by
  have hi := (List.getElem?_eq_some_iff.1 hy).1
  refine ⟨by omega, by omega, fun j x' y' hj hy' hx' => ?_, fun j _ _ h h' => by omega⟩
  rw [hy] at hx'
  cases hx'
  rcases Nat.lt_trichotomy j p with h1 | h1 | h1
  · exact S.tr _ _ _ hlt (h.low j x y' h1 hy' hx)
  · subst h1
    rw [hx] at hy'
    cases hy'
    exact hlt
  · have h2 := h.high j x y' h1 hj hy' hx
    cases h3 : lt y y' with
    | true => rfl
    | false => rw [S.neg _ _ _ h3 h2] at hlt; cases hlt
theorem Fst.stay {lt : α → α → Bool} {l : List α} {p i : Nat} {x y : α} (h : Fst lt l p i) (hy : l[i]? = some y) (hx : l[p]? = some x) (hlt : lt y x = false) : Fst lt l p (i + 1) := by
  have hi := (List.getElem?_eq_some_iff.1 hy).1
  refine ⟨by have := h.pi; omega, by omega, h.low, fun j x' y' h1 h2 hy' hx' => ?_⟩
  rcases Nat.lt_or_ge j i with h3 | h3
  · exact h.high j x' y' h1 h3 hy' hx'
  · obtain rfl : j = i := by omega
    rw [hy] at hy'; rw [hx] at hx'
    cases hy'; cases hx'
    exact hlt
theorem Fst.done {lt : α → α → Bool} (S : Swo lt) {l : List α} {p : Nat} {x : α} (h : Fst lt l p l.length) (hx : l[p]? = some x) : isort lt l = x :: isort lt (l.take p ++ l.drop (p + 1)) := by
  have hp := (List.getElem?_eq_some_iff.1 hx).1
  have e : l = l.take p ++ x :: l.drop (p + 1) := by
    have h1 := (List.take_append_drop p l).symm
    rw [List.drop_eq_getElem_cons hp, (List.getElem?_eq_some_iff.1 hx).2] at h1
    exact h1
  have h2 : isort lt (l.take p ++ x :: l.drop (p + 1)) = x :: isort lt (l.take p ++ l.drop (p + 1)) := by
    refine isort_first S (fun a ha => ?_) (fun b hb => ?_)
    · obtain ⟨j, hj⟩ := List.mem_iff_getElem?.1 ha
      have hjl := (List.getElem?_eq_some_iff.1 hj).1
      rw [List.length_take] at hjl
      rw [List.getElem?_take_of_lt (by omega)] at hj
      exact h.low j x a (by omega) hj hx
    · obtain ⟨j, hj⟩ := List.mem_iff_getElem?.1 hb
      rw [List.getElem?_drop] at hj
      have hjl := (List.getElem?_eq_some_iff.1 hj).1
      exact h.high (p + 1 + j) x b (by omega) hjl hj hx
  rw [← e] at h2
  exact h2
end Go.Stab
/-! The document's Order, given its comparison. -/
namespace Go.Proofs.YtkgcmcpakilacaaGreat.Tree
open Go Go.RowKit Go.Stab

def cellsD (ls : List Dc) : List Value := ls.flatMap Dc.cells
theorem cellsD_len : (ls : List Dc) → (cellsD ls).length = ls.length * 7
  | [] => rfl
  | d :: ls => by
    show (d.cells ++ cellsD ls).length = (ls.length + 1) * 7
    rw [List.length_append, cellsD_len ls]
    show 7 + ls.length * 7 = _
    omega
theorem cellsD_at : (ls : List Dc) → (q : Nat) → (d : Dc) → ls[q]? = some d → ∀ j u, d.cells[j]? = some u → (cellsD ls)[q * 7 + j]? = some u
  | [], _, _, h, _, _, _ => by simp at h
  | e0 :: es, 0, e, h, j, u, hj => by
    have : e0 = e := by simpa using h
    subst this
    show (e0.cells ++ cellsD es)[0 * 7 + j]? = some u
    rw [List.getElem?_append_left (by have := (List.getElem?_eq_some_iff.1 hj).1; omega)]
    simpa using hj
  | e0 :: es, q + 1, e, h, j, u, hj => by
    show (e0.cells ++ cellsD es)[(q + 1) * 7 + j]? = some u
    have h5 : e0.cells.length = 7 := rfl
    rw [List.getElem?_append_right (by omega), show (q + 1) * 7 + j - e0.cells.length = q * 7 + j by omega]
    exact cellsD_at es q e (by simpa using h) j u hj
theorem cellsD_one (ls : List Dc) : ∀ u ∈ cellsD ls, u.oneCell' = true := fun u hu => by
  obtain ⟨d, -, hd⟩ := List.mem_flatMap.1 hu
  unfold Dc.cells at hd
  simp only [List.mem_cons, List.not_mem_nil, or_false] at hd
  rcases hd with rfl | rfl | rfl | rfl | rfl | rfl | rfl <;> rfl
/-- Documents in a row of their own. -/
def DRow (base : Nat) (w : World) (v : Value) (ls : List Dc) : Prop := w.ownsRow base 50 7 v ls.length (cellsD ls)
theorem row_cell {w : World} {lo : Nat} {e : TypeId} {size g n cap : Nat} {xs : List Value} (h : w.ownsRow lo e size (.slice (some ⟨g, 0, none⟩) n cap) n xs) : ∀ j u, xs[j]? = some u → w.cell? ⟨g, j, none⟩ = some u := by
  intro j u hj
  obtain ⟨h1, h2⟩ := h
  rcases h2 with ⟨hv, _⟩ | ⟨g', cap', cur, hv, hg, hh, hc, hm, hs, hr⟩
  · cases hv
  · cases hv
    have hlt := (List.getElem?_eq_some_iff.1 hj).1
    rw [← hr, List.getElem?_take_of_lt (by rw [← h1]; exact hlt), Array.getElem?_toList] at hj
    simp [World.cell?, hh, hj]
theorem DRow.slice {base : Nat} {w : World} {v : Value} {ls : List Dc} (h : DRow base w v ls) : ∃ a c, v = .slice a ls.length c := ownsRow_slice h
theorem DRow.docs {base : Nat} {w : World} {a : Option Addr} {n c : Nat} {ls : List Dc} (h : DRow base w (.slice a n c) ls) : DocsAt w a ls := fun i d hd => by
  rcases h.2 with ⟨e, h0⟩ | ⟨g, cap, cur, e, hg, hh, hc, hm, hs, ht⟩
  · have : ls = [] := List.eq_nil_of_length_eq_zero h0
    subst this
    simp at hd
  · obtain ⟨rfl, rfl, rfl⟩ : a = _ ∧ n = _ ∧ c = _ := by simpa using e
    refine ⟨g, 0, rfl, fun j u hj => ?_⟩
    rw [Nat.zero_add]
    exact row_cell h _ u (cellsD_at ls i d hd j u hj)
theorem DRow.cap {base : Nat} {w : World} {g n c : Nat} {ls : List Dc} (h : DRow base w (.slice (some ⟨g, 0, none⟩) n c) ls) : ls.length ≤ c ∧ c ≤ 9223372036854775807 := by
  rcases h.2 with ⟨e, h0⟩ | ⟨g', cap, cur, e, hg, hh, hc, hm, hs, ht⟩
  · cases e
  · cases e
    exact ⟨hc, by unfold maxLen at hm; omega⟩
theorem run_append_none {P : Program} (w : World) (t ty e : TypeId) (i : TypeInfo) (ht : P.underlying t = some (.slice e)) (hi : P.info? e = some i) (g n cap : Nat) (hn : n ≤ cap) (ax : Option Addr) (c : Nat) :
    (Builtin.append_ #[t, t] ty #[.slice (some ⟨g, 0, none⟩) n cap, .slice ax 0 c]).run P w = .ok (.slice (some ⟨g, 0, none⟩) n cap) w := by
  have hs : Src P i.size t (.slice ax 0 c) 0 [] w := by
    cases ax with
    | none => exact Src.ofNil w ht c
    | some a => exact Src.ofSlice w ht a 0 c [] (by simp) (fun j u h => by simp at h) (fun u h => by cases h)
  have := run_append_room_src (P := P) w t t ty e i ht hi g 0 n cap _ 0 [] hs (by omega) (fun j h => by simp at h) (fun j h => by simp at h)
  rw [this]
  rfl
/-- Documents appended to documents. -/
theorem wp_append_docs {o : Oper} {a : Act} {K : Act → World → Prop} {Q : Exit → Act → World → Prop} (w : World) (s x : Operand)
    (ho : o.op = .call { callee := .builtin .append, args := #[s, x], argTypes := #[26, 26] }) (base g n cap : Nat) (xs : List Value) (hrow : w.ownsRow base 50 7 (.slice (some ⟨g, 0, none⟩) n cap) n xs)
    (hs : a.eval s = .slice (some ⟨g, 0, none⟩) n cap) (ax : Option Addr) (k c : Nat) (ys : List Value) (hx : a.eval x = .slice ax k c) (hys : ys.length = k * 7) (hl : k = 0 ∨ ∃ b off, ax = some ⟨b, off, none⟩ ∧ CellsAt w b off ys) (h1 : ∀ u ∈ ys, u.oneCell' = true) (hb : (n + k) * 104 ≤ 140737488355328) (hbase : base ≤ w.heap.size)
    (h : ∀ g' cap' w', w'.ownsRow base 50 7 (.slice (some ⟨g', 0, none⟩) (n + k) cap') (n + k) (xs ++ ys) → w.grownBy w' (some g) → (g' = g ∨ g' = w.heap.size) → K (a.put o.dst (.slice (some ⟨g', 0, none⟩) (n + k) cap')) w') : Oper.wp Tryz.prog o a w K Q := by
  obtain ⟨i, hi, hz0, hz1, hz2⟩ := info_parts AD
  by_cases h0 : k = 0
  · subst h0
    have e : ys = [] := List.eq_nil_of_length_eq_zero (by omega)
    subst e
    have hcap : n ≤ cap := by
      rcases hrow.2 with ⟨hv, _⟩ | ⟨g', cap', cur, hv, hg, hh, hc, hm, hs, hr⟩
      · cases hv
      · cases hv; exact hc
    have hr := run_append_none (P := Tryz.prog) w 26 o.type 50 i Tryz.underlying26 hi g n cap hcap ax c
    unfold Oper.wp execOp
    simp only [ho, resolve, invoke, builtin, Sem.run_bind, Sem.run_pure, Result.andThen_ok, List.map_toArray, List.map_cons, List.map_nil, hs, hx, hr]
    exact h g cap w (by rw [List.append_nil]; exact hrow) (World.grownBy.refl w _) (.inl rfl)
  · obtain ⟨b, off, rfl, hc⟩ := hl.resolve_left h0
    refine wp_append_lies w s x 26 ho base 50 i _ 7 104 Tryz.underlying26 hi hz0 hz1 hz2 rfl (by decide) _ n xs hs hrow _ k c ys hx hys (fun j u hu => by rw [add_off]; exact hc j u hu) h1 (by omega) (by unfold maxLen; omega) hb hbase _ rfl ?_
    intro g' cap' w' h2 h3 h4 _
    exact h g' cap' w' h2 h3 (h4.elim (fun e => .inl (by simpa [Value.ownBlock] using e.symm)) .inr)
theorem wpList_append_docs {ops : Array Oper} {rest : List Oper} {o : Oper} {a : Act} {Q : Exit → Act → World → Prop} (hgd : o.guard = none) (w : World) (s x : Operand)
    (ho : o.op = .call { callee := .builtin .append, args := #[s, x], argTypes := #[26, 26] }) (base g n cap : Nat) (xs : List Value) (hrow : w.ownsRow base 50 7 (.slice (some ⟨g, 0, none⟩) n cap) n xs)
    (hs : a.eval s = .slice (some ⟨g, 0, none⟩) n cap) (ax : Option Addr) (k c : Nat) (ys : List Value) (hx : a.eval x = .slice ax k c) (hys : ys.length = k * 7) (hl : k = 0 ∨ ∃ b off, ax = some ⟨b, off, none⟩ ∧ CellsAt w b off ys) (h1 : ∀ u ∈ ys, u.oneCell' = true) (hb : (n + k) * 104 ≤ 140737488355328) (hbase : base ≤ w.heap.size)
    (h : ∀ g' cap' w', w'.ownsRow base 50 7 (.slice (some ⟨g', 0, none⟩) (n + k) cap') (n + k) (xs ++ ys) → w.grownBy w' (some g) → (g' = g ∨ g' = w.heap.size) → wpList Tryz.prog ops Q rest (a.put o.dst (.slice (some ⟨g', 0, none⟩) (n + k) cap')) w') : wpList Tryz.prog ops Q (o :: rest) a w :=
  wpList_plain hgd fun _ hK => wp_append_docs w s x ho base g n cap xs hrow hs ax k c ys hx hys hl h1 hb hbase fun g' cap' w' h2 h3 h4 => hK _ _ (h g' cap' w' h2 h3 h4)
theorem step_append_docs {ops : Array Oper} {o : Oper} {a : Act} {K : Act → World → Prop} {Q : Exit → Act → World → Prop} {E : Prop} (hgd : o.guard = none) (w : World) (s x : Operand)
    (ho : o.op = .call { callee := .builtin .append, args := #[s, x], argTypes := #[26, 26] }) (base g n cap : Nat) (xs : List Value) (hrow : w.ownsRow base 50 7 (.slice (some ⟨g, 0, none⟩) n cap) n xs)
    (hs : a.eval s = .slice (some ⟨g, 0, none⟩) n cap) (ax : Option Addr) (k c : Nat) (ys : List Value) (hx : a.eval x = .slice ax k c) (hys : ys.length = k * 7) (hl : k = 0 ∨ ∃ b off, ax = some ⟨b, off, none⟩ ∧ CellsAt w b off ys) (h1 : ∀ u ∈ ys, u.oneCell' = true) (hb : (n + k) * 104 ≤ 140737488355328) (hbase : base ≤ w.heap.size)
    (h : ∀ g' cap' w', w'.ownsRow base 50 7 (.slice (some ⟨g', 0, none⟩) (n + k) cap') (n + k) (xs ++ ys) → w.grownBy w' (some g) → (g' = g ∨ g' = w.heap.size) → K (a.put o.dst (.slice (some ⟨g', 0, none⟩) (n + k) cap')) w') : if Region.wanted o (yielded ops a.tmps) = true then Oper.wp Tryz.prog o a w K Q else E := by
  have hw : Region.wanted o (yielded ops a.tmps) = true := by simp [Region.wanted, hgd]
  rw [if_pos hw]
  exact wp_append_docs w s x ho base g n cap xs hrow hs ax k c ys hx hys hl h1 hb hbase h
theorem owns_docs (w : World) : (w.alloc (.cells #[] 50)).ownsRow w.heap.size 50 7 (.slice (some ⟨w.heap.size, 0, none⟩) 0 0) 0 [] :=
  ⟨rfl, .inr ⟨w.heap.size, 0, #[], rfl, Nat.le_refl _, heap_alloc_new w _, Nat.le_refl _, Nat.zero_le _, rfl, rfl⟩⟩
theorem docs_lie {w : World} {a : Option Addr} {ds : List Dc} (h : DocsAt w a ds) : ds.length = 0 ∨ ∃ b off, a = some ⟨b, off, none⟩ ∧ CellsAt w b off (cellsD ds) := by
  rcases Nat.eq_zero_or_pos ds.length with h0 | h0
  · exact .inl h0
  · obtain ⟨b, off, e, -⟩ := h 0 ds[0] (List.getElem?_eq_getElem h0)
    refine .inr ⟨b, off, e, fun j u hj => ?_⟩
    have hjl := (List.getElem?_eq_some_iff.1 hj).1
    rw [cellsD_len] at hjl
    obtain ⟨q, r, hr, rfl⟩ : ∃ q r, r < 7 ∧ j = q * 7 + r := ⟨j / 7, j % 7, by omega, by omega⟩
    have hq : q < ds.length := by omega
    obtain ⟨b', o', e', hc⟩ := h q ds[q] (List.getElem?_eq_getElem hq)
    rw [e] at e'
    cases e'
    obtain ⟨u', hu'⟩ : ∃ u', (ds[q]).cells[r]? = some u' := ⟨_, List.getElem?_eq_getElem (show r < 7 from hr)⟩
    have h2 := cellsD_at ds q ds[q] (List.getElem?_eq_getElem hq) r u' hu'
    rw [hj] at h2
    cases h2
    rw [← Nat.add_assoc]
    exact hc r u hu'
def lenS : Value → Nat
  | .slice _ n _ => n
  | _ => 0
/-- Where the document's Order stands. -/
def RO (lt : Dc → Dc → Bool) (ds : List Dc) (w : World) (n : Nat) (mv lv : Value) (wr : World) : Prop := ∃ (q m : Nat) (dn ls : List Dc) (ao : Option Addr) (co gl cl : Nat), mv = .slice ao q co ∧ lv = .slice (some ⟨gl, 0, none⟩) m cl ∧ m ≤ n ∧ q ≤ n ∧ Hid (dn.length = q) ∧ Hid (ls.length = m) ∧ Hid (isort lt ds = dn ++ isort lt ls) ∧ Hid (∀ x ∈ ls, x ∈ ds) ∧ Hid (DRow w.heap.size wr (.slice ao q co) dn) ∧ Hid (DRow w.heap.size wr (.slice (some ⟨gl, 0, none⟩) m cl) ls) ∧ Hid ((Value.slice ao q co).ownBlock ≠ some gl) ∧ Hid (Below w.heap.size w wr)
theorem cellsD_append (l r : List Dc) : cellsD (l ++ r) = cellsD l ++ cellsD r := by simp [cellsD, List.flatMap_append]
set_option maxHeartbeats 8000000 in
set_option maxRecDepth 100000 in
theorem rorder_any (sv : Value) (a : Option Addr) (c n : Nat) (ds : List Dc) (w : World) (lt : Dc → Dc → Bool) (O : Swo lt) (cn : Dc → Dc → Int) (hlt : ∀ x y, lt x y = decide (cn x y < 0))
    (hcmp : ∀ x ∈ ds, ∀ y ∈ ds, ∀ W, Below w.heap.size w W → Calls Tryz.prog 23 #[sv, .agg x.cells.toArray, .agg y.cells.toArray] W fun e W' => e = .returned (.int .i64 (cn x y)) ∧ Below W.heap.size W W')
    (hn : ds.length = n) (hnn : n ≤ 1000000) (hV : DocsAt w a ds) :
    Calls Tryz.prog 16 #[sv, .slice a n c] w fun e w' => ∃ v, e = .returned v ∧ DRow w.heap.size w' v (isort lt ds) ∧ Below w.heap.size w w' := by
  have n0 : (0 : Int) ≤ (n : Int) := by omega
  have n1 : (n : Int) ≤ 1000000 := by omega
  obtain ⟨i0, hi, hz0, hz1, hz2⟩ := info_parts AD
  have hrow0 := hid_e (owns_docs w)
  have hbe : Hid (Below w.heap.size w (w.alloc (.cells #[] 50))) := (Below.refl _ w).alloc (Nat.le_refl _) _
  have hlie := hid_e (docs_lie (hV.keep hbe.out))
  have hcl := hid_e (cellsD_len ds)
  rw [hn] at hlie hcl
  have hsz0 : Hid (w.heap.size ≤ (w.alloc (.cells #[] 50)).heap.size) := by rw [World.size_alloc]; show _ ≤ _; omega
  replace hn := hid_e hn
  replace hlt := hid_e hlt
  replace hcmp := hid_e hcmp
  clear hV
  go_enter Tryz.func16, Tryz.ntmps16
  go_wp2_with (at_builtin; refine wpList_append_docs rfl _ _ _ rfl w.heap.size w.heap.size 0 0 [] hrow0.out rfl _ n c (cellsD ds) rfl hcl.out hlie.out (cellsD_one ds) (by omega) hsz0.out ?_; intro gl cl w1 hown1 hgrow1 hat1; rw [Nat.zero_add, List.nil_append] at hown1; rw [Nat.zero_add]; replace hown1 := hid_e hown1; replace hgrow1 := hid_e hgrow1; replace hat1 := hid_e hat1)
  have hb1 : Hid (Below w.heap.size w w1) := hbe.out.trans (grown_below hgrow1.out hsz0.out (fun g hg => by cases hg; exact Nat.le_refl _))
  have hL1 : Hid (DRow w.heap.size w1 (.slice (some ⟨gl, 0, none⟩) n cl) ds) := by show World.ownsRow _ _ _ _ _ _ _; rw [hn.out]; exact hown1.out
  clear hrow0 hbe hlie hcl hsz0 hown1 hgrow1 hat1
  go_loopw [5, 6, 7, 8] (fun mv lv _ _ wr => RO lt ds w n mv lv wr) (fun _ lv _ _ _ => lenS lv)
  case atStart => exact ⟨0, n, [], ds, none, 0, gl, cl, rfl, rfl, Nat.le_refl _, Nat.zero_le _, rfl, hn, rfl, (fun x hx => hx), World.ownsRow_nil _ _ _ _, hL1, (by show (Value.slice none 0 0).ownBlock ≠ some gl; simp [Value.ownBlock]), hb1⟩
  case round =>
    clear hL1 hb1
    obtain ⟨q, m, dn, ls, ao, co, gl, cl, rfl, rfl, hmn, hqn, hdq, hlm, hso, hmem, hD, hL, hne, hb⟩ := hrel
    by_cases hm0 : m = 0
    · subst hm0
      have hls : Hid (isort lt ds = dn) := by
        have e : ls = [] := List.eq_nil_of_length_eq_zero hlm.out
        have h := hso.out
        rw [e] at h
        exact h.trans (by simp [isort])
      go_wp2_with fail
      go_ret
      exact ⟨_, rfl, by rw [hls.out]; exact hD.out, hb.out⟩
    · have m0 : (0 : Int) < (m : Int) := by omega
      have m1 : (m : Int) ≤ 1000000 := by omega
      have hf0 : Hid (Fst lt ls 0 1) := Fst.one (by rw [hlm.out]; omega)
      go_wp2_with fail
      go_loopw [7, 8] (fun av iv wy => ∃ (p i : Nat), av = .int .i64 p ∧ iv = .int .i64 i ∧ i ≤ m ∧ Hid (Fst lt ls p i) ∧ Hid (Below wr.heap.size wr wy)) (fun _ iv _ => m - (intOf iv).toNat)
      case atStart => exact ⟨0, 1, rfl, rfl, by omega, hf0, Below.refl _ _⟩
      case round =>
        clear hf0
        obtain ⟨wo, hwo⟩ : ∃ wo, wo = wr := ⟨_, rfl⟩
        subst hwo
        obtain ⟨p, i, rfl, rfl, him, hF, hbi⟩ := hrel
        have hbW : Hid (Below w.heap.size w wo) := hb.out.trans (hbi.out.mono hb.out.size)
        have hpi := hF.out.pi
        have p1 : (p : Int) < (m : Int) := by omega
        have p0 : (0 : Int) ≤ (p : Int) := by omega
        obtain ⟨x, hx⟩ : ∃ x, Hid (ls[p]? = some x) := ⟨ls[p]'(by rw [hlm.out]; omega), List.getElem?_eq_getElem (by rw [hlm.out]; omega)⟩
        have hLw : Hid (DRow w.heap.size wo (.slice (some ⟨gl, 0, none⟩) m cl) ls) := ownsRow_below hL.out hbi.out
        obtain ⟨b', o', ea, hcx⟩ := hLw.out.docs p x hx.out
        cases ea
        rw [Nat.zero_add] at hcx
        unfold Dc.cells at hcx
        obtain ⟨x0, x1, x2, x3, x4, x5, x6⟩ := cells7 hcx
        clear hcx
        by_cases hil : i < m
        · have i1 : (i : Int) < (m : Int) := by omega
          have i0 : (0 : Int) ≤ (i : Int) := by omega
          obtain ⟨y, hy⟩ : ∃ y, Hid (ls[i]? = some y) := ⟨ls[i]'(by rw [hlm.out]; omega), List.getElem?_eq_getElem (by rw [hlm.out]; omega)⟩
          obtain ⟨b', o', ea, hcy⟩ := hLw.out.docs i y hy.out
          cases ea
          rw [Nat.zero_add] at hcy
          unfold Dc.cells at hcy
          obtain ⟨y0, y1, y2, y3, y4, y5, y6⟩ := cells7 hcy
          clear hcy
          have call := hid_e (fun W (hW : Below wo.heap.size wo W) => hcmp.out y (hmem.out y (List.mem_of_getElem? hy.out)) x (hmem.out x (List.mem_of_getElem? hx.out)) W (hbW.out.trans (hW.mono hbW.out.size)))
          unfold Dc.cells at call
          obtain ⟨C, hC⟩ : ∃ C, Hid (cn y x = C) := ⟨_, rfl⟩
          simp only [hC.out] at call
          have hCl : Hid (lt y x = decide (C < 0)) := by show _ = _; rw [hlt.out, hC.out]
          go_upto_region 8 with fail
          refine wp_region_quiet (C := fun w' => Below wo.heap.size wo w') (by kernel_rfl) (by kernel_rfl) (below_drewN (Below.refl _ _) 1) ?_
          with_reducible refine wpQuiet_step (fun K hK => ?_)
          refine ⟨sv, fun w' hw' => ?_, ?_⟩
          · first | (go_simp; done) | (go_simp; decide) | (go_simp; omega)
          with_reducible refine hK _ ?_
          clear hK K
          simp only [Act.put, List.setIfInBounds_toArray, List.set_cons_zero, List.set_cons_succ]
          with_reducible refine wpQuiet_step (fun K hK => ?_)
          refine ⟨.slice (some ⟨gl, 0, none⟩) m cl, fun w' hw' => ?_, ?_⟩
          · first | (go_simp; done) | (go_simp; decide) | (go_simp; omega)
          with_reducible refine hK _ ?_
          clear hK K
          simp only [Act.put, List.setIfInBounds_toArray, List.set_cons_zero, List.set_cons_succ]
          with_reducible refine wpQuiet_step (fun K hK => ?_)
          refine ⟨.int .i64 i, fun w' hw' => ?_, ?_⟩
          · first | (go_simp; done) | (go_simp; decide) | (go_simp; omega)
          with_reducible refine hK _ ?_
          clear hK K
          simp only [Act.put, List.setIfInBounds_toArray, List.set_cons_zero, List.set_cons_succ]
          with_reducible refine wpQuiet_step (fun K hK => ?_)
          refine ⟨.pointer (some ⟨gl, i * 7, none⟩), fun w' hw' => ?_, ?_⟩
          · first | (go_simp; done) | (go_simp; decide) | (go_simp; omega)
          with_reducible refine hK _ ?_
          clear hK K
          simp only [Act.put, List.setIfInBounds_toArray, List.set_cons_zero, List.set_cons_succ]
          with_reducible refine wpQuiet_step (fun K hK => ?_)
          refine ⟨.agg #[.string y.id, .int .i64 y.ver, .int .i64 y.k, .int .i64 y.x, .string y.s, .slice y.an y.ln y.cn, .slice y.ai y.li y.ci], fun w' hw' => ?_, ?_⟩
          · have t0 := stay hw' y0
            have t1 := stay hw' y1
            have t2 := stay hw' y2
            have t3 := stay hw' y3
            have t4 := stay hw' y4
            have t5 := stay hw' y5
            have t6 := stay hw' y6
            go_simp
          with_reducible refine hK _ ?_
          clear hK K
          simp only [Act.put, List.setIfInBounds_toArray, List.set_cons_zero, List.set_cons_succ]
          with_reducible refine wpQuiet_step (fun K hK => ?_)
          refine ⟨.slice (some ⟨gl, 0, none⟩) m cl, fun w' hw' => ?_, ?_⟩
          · first | (go_simp; done) | (go_simp; decide) | (go_simp; omega)
          with_reducible refine hK _ ?_
          clear hK K
          simp only [Act.put, List.setIfInBounds_toArray, List.set_cons_zero, List.set_cons_succ]
          with_reducible refine wpQuiet_step (fun K hK => ?_)
          refine ⟨.int .i64 p, fun w' hw' => ?_, ?_⟩
          · first | (go_simp; done) | (go_simp; decide) | (go_simp; omega)
          with_reducible refine hK _ ?_
          clear hK K
          simp only [Act.put, List.setIfInBounds_toArray, List.set_cons_zero, List.set_cons_succ]
          with_reducible refine wpQuiet_step (fun K hK => ?_)
          refine ⟨.pointer (some ⟨gl, p * 7, none⟩), fun w' hw' => ?_, ?_⟩
          · first | (go_simp; done) | (go_simp; decide) | (go_simp; omega)
          with_reducible refine hK _ ?_
          clear hK K
          simp only [Act.put, List.setIfInBounds_toArray, List.set_cons_zero, List.set_cons_succ]
          with_reducible refine wpQuiet_step (fun K hK => ?_)
          refine ⟨.agg #[.string x.id, .int .i64 x.ver, .int .i64 x.k, .int .i64 x.x, .string x.s, .slice x.an x.ln x.cn, .slice x.ai x.li x.ci], fun w' hw' => ?_, ?_⟩
          · have t0 := stay hw' x0
            have t1 := stay hw' x1
            have t2 := stay hw' x2
            have t3 := stay hw' x3
            have t4 := stay hw' x4
            have t5 := stay hw' x5
            have t6 := stay hw' x6
            go_simp
          with_reducible refine hK _ ?_
          clear hK K
          simp only [Act.put, List.setIfInBounds_toArray, List.set_cons_zero, List.set_cons_succ]
          with_reducible refine wpQuiet_step (fun K hK => ?_)
          refine ⟨.int .i64 C, fun w' hw' => ?_, ?_⟩
          · go_simp
            refine (call.out w' hw').mono ?_
            rintro e w'' ⟨rfl, hb'⟩
            exact ⟨rfl, hw'.trans (hb'.mono hw'.size)⟩
          with_reducible refine hK _ ?_
          clear hK K
          simp only [Act.put, List.setIfInBounds_toArray, List.set_cons_zero, List.set_cons_succ]
          by_cases hz : C < 0
          · have hF' : Hid (Fst lt ls i (i + 1)) := hF.out.next O hy.out hx.out (by rw [hCl.out]; exact decide_eq_true hz)
            with_reducible refine wpQuiet_step (fun K hK => ?_)
            refine ⟨.bool true, fun w' hw' => ?_, ?_⟩
            · first | (go_simp; done) | (go_simp; decide) | (go_simp; omega)
            with_reducible refine hK _ ?_
            clear hK K
            simp only [Act.put, List.setIfInBounds_toArray, List.set_cons_zero, List.set_cons_succ]
            refine wpQuiet_nil ?_
            intro X1 hX1
            have hb' := hid_e (hbi.out.trans (hX1.mono hbi.out.size))
            clear x0 x1 x2 x3 x4 x5 x6 y0 y1 y2 y3 y4 y5 y6 call hX1 hbi hbW hLw hC hCl
            go_wp2_with fail
            exact ⟨⟨i, i + 1, rfl, by go_num, by omega, hF', hb'⟩, by simp [intOf]; omega⟩
          · have hF' : Hid (Fst lt ls p (i + 1)) := hF.out.stay hy.out hx.out (by rw [hCl.out]; exact decide_eq_false hz)
            with_reducible refine wpQuiet_step (fun K hK => ?_)
            refine ⟨.bool false, fun w' hw' => ?_, ?_⟩
            · first | (go_simp; done) | (go_simp; decide) | (go_simp; omega)
            with_reducible refine hK _ ?_
            clear hK K
            simp only [Act.put, List.setIfInBounds_toArray, List.set_cons_zero, List.set_cons_succ]
            refine wpQuiet_nil ?_
            intro X1 hX1
            have hb' := hid_e (hbi.out.trans (hX1.mono hbi.out.size))
            clear x0 x1 x2 x3 x4 x5 x6 y0 y1 y2 y3 y4 y5 y6 call hX1 hbi hbW hLw hC hCl
            go_wp2_with fail
            exact ⟨⟨p, i + 1, rfl, by go_num, by omega, hF', hb'⟩, by simp [intOf]; omega⟩
        · obtain rfl : i = m := by omega
          have i1 : ¬ (i : Int) < (i : Int) := by omega
          have hfst : Hid (isort lt ls = x :: isort lt (ls.take p ++ ls.drop (p + 1))) := Fst.done O (by rw [hlm.out]; exact hF.out) hx.out
          have hDw : Hid (DRow w.heap.size wo (.slice ao q co) dn) := ownsRow_below hD.out hbi.out
          have hrow2 : Hid ((wo.alloc (.cells #[.string x.id, .int .i64 x.ver, .int .i64 x.k, .int .i64 x.x, .string x.s, .slice x.an x.ln x.cn, .slice x.ai x.li x.ci] 50)).ownsRow w.heap.size 50 7 (.slice ao q co) q (cellsD dn)) := by
            have h := hDw.out
            unfold DRow at h
            rw [hdq.out] at h
            exact h.alloc _
          have hbb : Hid (w.heap.size ≤ (wo.alloc (.cells #[.string x.id, .int .i64 x.ver, .int .i64 x.k, .int .i64 x.x, .string x.s, .slice x.an x.ln x.cn, .slice x.ai x.li x.ci] 50)).heap.size) := by rw [World.size_alloc]; show _ ≤ _; have := hbW.out.size; omega
          have hgl : Hid (w.heap.size ≤ gl ∧ gl < wo.heap.size) := ownsRow_ge hLw.out rfl
          have hql : Hid (q + i = n) := by
            have h := congrArg List.length hso.out
            rw [isort_length, List.length_append, isort_length, hn.out, hdq.out, hlm.out] at h
            exact h.symm
          have hq1 : q + 1 ≤ 1000000 := by have := hql.out; omega
          clear hF hD hL hbi
          go_upto_region 11 with (at_builtin; refine wpList_append_lies _ rfl _ _ 26 rfl w.heap.size 50 i0 _ 7 104 Tryz.underlying26 hi hz0 hz1 hz2 rfl (by decide) (.slice ao q co) q (cellsD dn) rfl hrow2.out _ 1 1 [.string x.id, .int .i64 x.ver, .int .i64 x.k, .int .i64 x.x, .string x.s, .slice x.an x.ln x.cn, .slice x.ai x.li x.ci] rfl rfl (World.news_of_block (heap_alloc_new wo _)) (by intro u hu; simp only [List.mem_cons, List.not_mem_nil, or_false] at hu; rcases hu with rfl | rfl | rfl | rfl | rfl | rfl | rfl <;> rfl) (by decide) (by unfold maxLen; omega) (by omega) hbb.out _ rfl ?_; intro g3 c3 w3 hown3 hgrow3 hat3 hlt3; replace hown3 := hid_e hown3; replace hgrow3 := hid_e hgrow3; replace hat3 := hid_e hat3; clear hlt3)
          have hL3 : Hid (DRow w.heap.size w3 (.slice (some ⟨gl, 0, none⟩) i cl) ls) := ownsRow_keep hLw.out (fun g hg => by
            obtain rfl : gl = g := by simpa [Value.ownBlock] using hg
            exact (hgrow3.out.block gl (by rw [World.size_alloc]; have := hgl.out; omega) (fun e => hne.out e.symm)).trans (Below.heap_alloc wo _ gl hgl.out.2))
          have hD3 : Hid (DRow w.heap.size w3 (.slice (some ⟨g3, 0, none⟩) (q + 1) c3) (dn ++ [x])) := by
            show World.ownsRow _ _ _ _ _ _ _
            rw [List.length_append, hdq.out, cellsD_append, show cellsD [x] = x.cells by simp [cellsD]]
            exact hown3.out
          have hg3 : Hid (g3 ≠ gl) := by
            intro e
            rcases hat3.out with h | h
            · exact hne.out (by rw [h, e])
            · rw [World.size_alloc] at h; have := hgl.out; omega
          have hb3 : Hid (Below w.heap.size w w3) := (hbW.out.alloc hbW.out.size _).trans (grown_below hgrow3.out hbb.out (fun g hg => (ownsRow_ge hDw.out hg).1))
          have hgl3 : Hid (gl < w3.heap.size ∧ g3 < w3.heap.size) := ⟨(ownsRow_ge hL3.out rfl).2, (ownsRow_ge hD3.out rfl).2⟩
          clear hown3 hgrow3 hat3 hrow2 hbb hDw hLw hbW x0 x1 x2 x3 x4 x5 x6 hgl
          have hrowN := hid_e (owns_docs w3.drew)
          have hbe : Hid (Below w3.heap.size w3 (w3.drew.alloc (.cells #[] 50))) := (below_drew (Below.refl _ w3)).alloc (Nat.le_refl _) _
          have hsE : Hid (w3.drew.heap.size ≤ (w3.drew.alloc (.cells #[] 50)).heap.size) := by rw [World.size_alloc]; show _ ≤ _; omega
          have hdoc := hid_e (hL3.out.docs)
          have src1 : Hid (p = 0 ∨ ∃ b off, some (⟨gl, 0, none⟩ : Addr) = some ⟨b, off, none⟩ ∧ CellsAt (w3.drew.alloc (.cells #[] 50)) b off (cellsD (ls.take p))) := by
            have h := docs_lie (w := w3.drew.alloc (.cells #[] 50)) (a := some ⟨gl, 0, none⟩) (ds := ls.take p) (fun j d hd => by
              have hjl := (List.getElem?_eq_some_iff.1 hd).1
              rw [List.length_take] at hjl
              rw [List.getElem?_take_of_lt (by omega)] at hd
              obtain ⟨b, off, e, hc⟩ := hdoc.out j d hd
              exact ⟨b, off, e, fun r u hu => stay hbe.out (hc r u hu)⟩)
            rw [List.length_take, Nat.min_eq_left (by rw [hlm.out]; omega)] at h
            exact h
          have len1 : Hid ((cellsD (ls.take p)).length = p * 7) := by show _ = _; rw [cellsD_len, List.length_take, Nat.min_eq_left (by rw [hlm.out]; omega)]
          have hcapl : Hid (i ≤ cl ∧ cl ≤ 9223372036854775807) := by have h := hL3.out.cap; rw [hlm.out] at h; exact h
          obtain ⟨P1, hP1⟩ : ∃ P1 : Nat, Hid (p + 1 = P1) := ⟨_, rfl⟩
          have eP : (p : Int) + 1 = (P1 : Int) := by have := hP1.out; omega
          have wP : IntKind.i64.wrap (P1 : Int) = (P1 : Int) := Sorted.wrap_in (by omega) (by have := hP1.out; omega)
          have bP : (P1 : Int) ≤ (i : Int) := by have := hP1.out; omega
          have bP' : P1 ≤ i := by omega
          have bC : i ≤ cl := hcapl.out.1
          have bC' : (i : Int) ≤ (cl : Int) := by omega
          have pP : (0 : Int) ≤ (P1 : Int) := by omega
          have pc : p ≤ cl := by omega
          have len2 : Hid ((cellsD (ls.drop P1)).length = (i - P1) * 7) := by show _ = _; rw [cellsD_len, List.length_drop, hlm.out]
          have hfst' : Hid (isort lt ls = x :: isort lt (ls.take p ++ ls.drop P1)) := by rw [← hP1.out]; exact hfst.out
          have hbe4 : Hid (∀ W, (w3.drew.alloc (.cells #[] 50)).grownBy W (some w3.drew.heap.size) → w3.drew.heap.size ≤ W.heap.size ∧ Below w3.heap.size w3 W) := by
            intro W hW
            have h1 : Below w3.heap.size w3 W := hbe.out.trans (grown_below hW hbe.out.size (fun g hg => by cases hg; exact Nat.le_refl _))
            exact ⟨h1.size, h1⟩
          have hnew : Hid (∀ (g : Nat) (W : World), (w3.drew.alloc (.cells #[] 50)).grownBy W (some w3.drew.heap.size) → (g = w3.drew.heap.size ∨ g = (w3.drew.alloc (.cells #[] 50)).heap.size) → w3.heap.size ≤ g) := by
            intro g W _ hg
            rcases hg with h | h
            · rw [h]; exact Nat.le_refl _
            · rw [h, World.size_alloc]; exact Nat.le_succ _
          have last : Hid (∀ (g4 g5 : Nat) (w4 w5 : World), Below w3.heap.size w3 w4 → w3.heap.size ≤ g4 → w4.grownBy w5 (some g4) → (g5 = g4 ∨ g5 = w4.heap.size) → DRow w.heap.size w5 (.slice (some ⟨g3, 0, none⟩) (q + 1) c3) (dn ++ [x]) ∧ w3.heap.size ≤ g5 ∧ g3 < w3.heap.size ∧ Below w.heap.size w w5) := by
            intro g4 g5 w4 w5 h1 h2 h3 h4
            have h5 : Below w3.heap.size w3 w5 := h1.trans (grown_below h3 h1.size (fun g hg => by cases hg; exact h2))
            refine ⟨ownsRow_below hD3.out h5, ?_, hgl3.out.2, hb3.out.trans (h5.mono hb3.out.size)⟩
            rcases h4 with h | h
            · omega
            · rw [h]; exact h1.size
          have fins : Hid (p + (i - P1) ≤ n ∧ q + 1 ≤ n ∧ p + (i - P1) < i) := by show _ ∧ _ ∧ _; have := hP1.out; have := hql.out; omega
          by_cases hcap : cl = P1
          · subst hcap
            have mk2 : Hid (∀ W : World, (w3.drew.alloc (.cells #[] 50)).grownBy W (some w3.drew.heap.size) → True) := fun _ _ => trivial
            have hdr : Hid (ls.drop cl = []) := List.drop_eq_nil_of_le (by rw [hlm.out]; exact bC)
            go_region_law (first | (refine step_append_docs rfl _ _ _ rfl w3.drew.heap.size w3.drew.heap.size 0 0 [] hrowN.out rfl (some ⟨gl, 0, none⟩) p _ (cellsD (ls.take p)) rfl len1.out src1.out (cellsD_one _) (by omega) hsE.out ?_; intro g4 c4 w4 hown4 hgrow4 hat4; rw [Nat.zero_add, List.nil_append] at hown4; rw [Nat.zero_add]; have row4 := hid_e hown4; have sz4 := hid_e (hbe4.out w4 hgrow4); have src2 := hid_e (mk2.out w4 hgrow4); have new4 := hid_e (hnew.out g4 w4 hgrow4 hat4); clear hown4 hgrow4 hat4) | (refine step_append_docs rfl _ _ _ rfl w3.drew.heap.size g4 p c4 (cellsD (ls.take p)) row4.out rfl (some (⟨gl, 0, none⟩ : Addr)) 0 _ ([] : List Value) rfl rfl (.inl rfl) (fun u hu => by cases hu) (by omega) sz4.out.1 ?_; intro g5 c5 w5 hown5 hgrow5 hat5; rw [Nat.add_zero, List.append_nil] at hown5; rw [Nat.add_zero]; have row5 := hid_e hown5; have fin5 := hid_e (last.out g4 g5 w4 w5 sz4.out.2 new4.out hgrow5 hat5); clear hown5 hgrow5 hat5))
            all_goals
              go_wp2_with fail
              exact ⟨⟨q + 1, p, dn ++ [x], ls.take p ++ ls.drop cl, some ⟨g3, 0, none⟩, c3, g5, c5, rfl, rfl, by have := fins.out.1; omega, fins.out.2.1, by show _ = _; rw [List.length_append, hdq.out]; rfl, by show _ = _; have := hP1.out; rw [List.length_append, List.length_take, List.length_drop, hlm.out]; omega, by show _ = _; rw [hso.out, hfst'.out]; simp, (fun y hy => hmem.out y (by rcases List.mem_append.1 hy with h | h; exact List.mem_of_mem_take h; exact List.mem_of_mem_drop h)), fin5.out.1, (by
                have h := row5.out
                show World.ownsRow _ _ _ _ _ _ _
                rw [hdr.out, List.append_nil, List.length_take, hlm.out, Nat.min_eq_left (by have := hP1.out; omega)]
                exact ownsRow_lo h hb3.out.size), (by show (Value.slice (some ⟨g3, 0, none⟩) (q + 1) c3).ownBlock ≠ some g5; have := fin5.out.2.1; have := fin5.out.2.2.1; simp [Value.ownBlock]; omega), fin5.out.2.2.2⟩, by simp only [lenS]; have := fins.out.2.2; omega⟩
          · have _sk := True.intro
            have mk2 : Hid (∀ W, (w3.drew.alloc (.cells #[] 50)).grownBy W (some w3.drew.heap.size) → (i - P1 = 0 ∨ ∃ b off, (some (⟨gl, P1 * 7, none⟩ : Addr)) = some ⟨b, off, none⟩ ∧ CellsAt W b off (cellsD (ls.drop P1)))) := by
              intro W hW
              have hbW := (hbe4.out W hW).2
              have h := docs_lie (w := W) (a := some ⟨gl, P1 * 7, none⟩) (ds := ls.drop P1) (fun j d hd => by
                rw [List.getElem?_drop] at hd
                obtain ⟨b, off, e, hc⟩ := hdoc.out (P1 + j) d hd
                cases e
                refine ⟨gl, P1 * 7, rfl, fun r u hu => stay hbW ?_⟩
                have h9 := hc r u hu
                rw [Nat.zero_add] at h9
                rw [← Nat.add_mul]
                exact h9)
              rw [List.length_drop, hlm.out] at h
              exact h
            go_region_law (first | (refine step_append_docs rfl _ _ _ rfl w3.drew.heap.size w3.drew.heap.size 0 0 [] hrowN.out rfl (some ⟨gl, 0, none⟩) p _ (cellsD (ls.take p)) rfl len1.out src1.out (cellsD_one _) (by omega) hsE.out ?_; intro g4 c4 w4 hown4 hgrow4 hat4; rw [Nat.zero_add, List.nil_append] at hown4; rw [Nat.zero_add]; have row4 := hid_e hown4; have sz4 := hid_e (hbe4.out w4 hgrow4); have src2 := hid_e (mk2.out w4 hgrow4); have new4 := hid_e (hnew.out g4 w4 hgrow4 hat4); clear hown4 hgrow4 hat4) | (refine step_append_docs rfl _ _ _ rfl w3.drew.heap.size g4 p c4 (cellsD (ls.take p)) row4.out rfl (some (⟨gl, P1 * 7, none⟩ : Addr)) (i - P1) _ (cellsD (ls.drop P1)) rfl len2.out src2.out (cellsD_one _) (by omega) sz4.out.1 ?_; intro g5 c5 w5 hown5 hgrow5 hat5; have row5 := hid_e hown5; have fin5 := hid_e (last.out g4 g5 w4 w5 sz4.out.2 new4.out hgrow5 hat5); clear hown5 hgrow5 hat5))
            all_goals
              go_wp2_with fail
              exact ⟨⟨q + 1, p + (i - P1), dn ++ [x], ls.take p ++ ls.drop P1, some ⟨g3, 0, none⟩, c3, g5, c5, rfl, rfl, fins.out.1, fins.out.2.1, by show _ = _; rw [List.length_append, hdq.out]; rfl, by show _ = _; have := hP1.out; rw [List.length_append, List.length_take, List.length_drop, hlm.out]; omega, by show _ = _; rw [hso.out, hfst'.out]; simp, (fun y hy => hmem.out y (by rcases List.mem_append.1 hy with h | h; exact List.mem_of_mem_take h; exact List.mem_of_mem_drop h)), fin5.out.1, (by
                have h := row5.out
                rw [← cellsD_append] at h
                show World.ownsRow _ _ _ _ _ _ _
                rw [List.length_append, List.length_take, List.length_drop, hlm.out, Nat.min_eq_left (by have := hP1.out; omega)]
                exact ownsRow_lo h hb3.out.size), (by show (Value.slice (some ⟨g3, 0, none⟩) (q + 1) c3).ownBlock ≠ some g5; have := fin5.out.2.1; have := fin5.out.2.2.1; simp [Value.ownBlock]; omega), fin5.out.2.2.2⟩, by simp only [lenS]; exact fins.out.2.2⟩
end Go.Proofs.YtkgcmcpakilacaaGreat.Tree
