import Derived.Test.YtkgcmcpakilacaaGreatOG
/-! ShapeTotal: lists of documents with unlike Ids. -/
namespace Go.Proofs.YtkgcmcpakilacaaGreat.Tree
open Go Go.RowKit Go.Stab

theorem sorted_one {α : Type} {lt : α → α → Bool} : ∀ (l l' : List α), Up lt l → Up lt l' → l.Perm l' → (∀ a ∈ l, ∀ b ∈ l, lt a b = false → lt b a = false → a = b) → l = l'
  | [], l', _, _, hp, _ => by rw [List.nil_perm.1 hp]
  | a :: r, [], _, _, hp, _ => by cases List.perm_nil.1 hp
  | a :: r, b :: r', hu, hu', hp, anti => by
    have h1 : (∀ y ∈ r, lt y a = false) ∧ Up lt r := hu
    have h2 : (∀ y ∈ r', lt y b = false) ∧ Up lt r' := hu'
    have e : a = b := by
      have ha : a ∈ b :: r' := hp.mem_iff.1 (.head _)
      have hb : b ∈ a :: r := hp.mem_iff.2 (.head _)
      rcases List.mem_cons.1 ha with ha | ha
      · exact ha
      · rcases List.mem_cons.1 hb with hb | hb
        · exact hb.symm
        · exact anti a (.head _) b (.tail _ hb) (h2.1 a ha) (h1.1 b hb)
    subst e
    rw [sorted_one r r' h1.2 h2.2 (hp.cons_inv) (fun x hx y hy => anti x (.tail _ hx) y (.tail _ hy))]
/-- No two documents have one Id. -/
def IdsN (ds : List Dc) : Prop := ∀ (i j : Nat) (x y : Dc), ds[i]? = some x → ds[j]? = some y → x.id = y.id → i = j
theorem IdsN.eq {ds : List Dc} (h : IdsN ds) {x y : Dc} (hx : x ∈ ds) (hy : y ∈ ds) (e : x.id = y.id) : x = y := by
  obtain ⟨i, hi⟩ := List.mem_iff_getElem?.1 hx
  obtain ⟨j, hj⟩ := List.mem_iff_getElem?.1 hy
  have := h i j x y hi hj e
  subst this
  rw [hi] at hj
  exact Option.some.inj hj
theorem cmpS_zero {a b : ByteArray} (h : cmpS a b = 0) : a = b := by
  have := (cb_less a.data.toList b.data.toList).2.1 h
  cases a
  cases b
  congr
  exact Array.toList_inj.1 this
theorem cmpS_self (a : ByteArray) : cmpS a a = 0 := by have := cmpS_anti a a; omega
theorem cnK_zero {ts : List Turn} {x y : Dc} (h : cnK ts x y = 0) : x.id = y.id := cmpS_zero (cmpF_id h)
theorem cnK_self (ts : List Turn) (x : Dc) : cnK ts x x = 0 := by have := (preK ts).anti x x; omega
theorem order_one {ts : List Turn} {ds es : List Dc} (h : IdsN ds) (hp : ds.Perm es) : isort (ltK' ts) ds = isort (ltK' ts) es := by
  refine sorted_one _ _ (isort_up (swoK ts) ds) (isort_up (swoK ts) es) ((isort_perm _ ds).trans (hp.trans (isort_perm _ es).symm)) (fun a ha b hb h1 h2 => ?_)
  have a1 : ¬ cnK ts a b < 0 := of_decide_eq_false h1
  have a2 : ¬ cnK ts b a < 0 := of_decide_eq_false h2
  have a3 := (preK ts).anti a b
  exact h.eq ((isort_perm _ ds).mem_iff.1 ha) ((isort_perm _ ds).mem_iff.1 hb) (cnK_zero (show cnK ts a b = 0 by omega))
theorem up_at {α : Type} {lt : α → α → Bool} : ∀ {l : List α}, Up lt l → ∀ {i : Nat} {x y : α}, l[i]? = some x → l[i + 1]? = some y → lt y x = false
  | [], _, i, x, y, h, _ => by simp at h
  | a :: r, hu, i, x, y, h, h' => by
    have h1 : (∀ y ∈ r, lt y a = false) ∧ Up lt r := hu
    cases i with
    | zero =>
      have e : a = x := by simpa using h
      subst e
      exact h1.1 y (List.mem_of_getElem? (i := 0) (by simpa using h'))
    | succ i => exact up_at h1.2 (i := i) (by simpa using h) (by simpa using h')
theorem isort_lt {ts : List Turn} {ds : List Dc} (h : IdsN ds) {i : Nat} {x y : Dc} (hx : (isort (ltK' ts) ds)[i]? = some x) (hy : (isort (ltK' ts) ds)[i + 1]? = some y) (hxy : x ≠ y) : cnK ts x y < 0 := by
  have h1 := up_at (isort_up (swoK ts) ds) hx hy
  have a1 : ¬ cnK ts y x < 0 := of_decide_eq_false h1
  have a2 := (preK ts).anti x y
  rcases Int.lt_or_le (cnK ts x y) 0 with h2 | h2
  · exact h2
  · exact absurd (h.eq ((isort_perm _ ds).mem_iff.1 (List.mem_of_getElem? hx)) ((isort_perm _ ds).mem_iff.1 (List.mem_of_getElem? hy)) (cnK_zero (show cnK ts x y = 0 by omega))) hxy
theorem IdsN.nodup {ds : List Dc} (h : IdsN ds) : ds.Nodup := by
  refine List.pairwise_iff_getElem.2 (fun i j hi hj hij e => ?_)
  have := h i j ds[i] ds[j] (List.getElem?_eq_getElem hi) (List.getElem?_eq_getElem hj) (by rw [e])
  omega
theorem isort_next {ts : List Turn} {ds : List Dc} (h : IdsN ds) {i : Nat} {x y : Dc} (hx : (isort (ltK' ts) ds)[i]? = some x) (hy : (isort (ltK' ts) ds)[i + 1]? = some y) : cnK ts x y < 0 := by
  refine isort_lt h hx hy (fun e => ?_)
  have hn : (isort (ltK' ts) ds).Nodup := (isort_perm _ ds).nodup_iff.2 h.nodup
  obtain ⟨h1, e1⟩ := List.getElem?_eq_some_iff.1 hx
  obtain ⟨h2, e2⟩ := List.getElem?_eq_some_iff.1 hy
  exact List.pairwise_iff_getElem.1 hn i (i + 1) h1 h2 (by omega) (by rw [e1, e2, e])
/-- How many documents have that Id. -/
def cntId (ls : List Dc) (s : ByteArray) : Nat := (ls.filter (fun x => decide (x.id = s))).length
theorem cntId_perm {l l' : List Dc} (h : l.Perm l') (s : ByteArray) : cntId l s = cntId l' s := (h.filter _).length_eq
theorem cntId_step {ls : List Dc} {q : Nat} {x : Dc} (h : ls[q]? = some x) (s : ByteArray) : cntId (ls.take (q + 1)) s = cntId (ls.take q) s + if x.id = s then 1 else 0 := by
  unfold cntId
  rw [List.take_add_one, h, Option.toList, List.filter_append, List.length_append]
  by_cases e : x.id = s
  · simp [e]
  · simp [e]
theorem cntId_le (ls : List Dc) (s : ByteArray) : cntId ls s ≤ ls.length := List.length_filter_le _ _
end Go.Proofs.YtkgcmcpakilacaaGreat.Tree
/-! How often a document stands in a list. -/
namespace Go.Proofs.YtkgcmcpakilacaaGreat.Tree
open Go Go.RowKit Go.Stab

theorem k_quiet_if {c : Bool} {p q : Prop} (h : c = true) (hp : p) : if c = true then p else q := by rw [if_pos h]; exact hp
theorem k_quiet_else {c : Bool} {p q : Prop} (h : c = false) (hq : q) : if c = true then p else q := by rw [if_neg (by simp [h])]; exact hq
theorem id_ne {a b : ByteArray} (h : a ≠ b) : (a.toList == b.toList) = false := by
  cases e : (a.toList == b.toList) with
  | false => rfl
  | true =>
    have e' : a.toList = b.toList := by simpa using e
    rw [toList_data, toList_data] at e'
    exact absurd (by cases a; cases b; congr; exact Array.toList_inj.1 e') h
set_option maxHeartbeats 2000000 in
set_option maxRecDepth 100000 in
theorem same_diff (x d : Dc) (w : World) (h : x.id ≠ d.id) : Calls Tryz.prog 37 #[.agg #[.string x.id, .int .i64 x.ver, .int .i64 x.k, .int .i64 x.x, .string x.s, .slice x.an x.ln x.cn, .slice x.ai x.li x.ci], .agg #[.string d.id, .int .i64 d.ver, .int .i64 d.k, .int .i64 d.x, .string d.s, .slice d.an d.ln d.cn, .slice d.ai d.li d.ci]] w fun e w' => e = .returned (.bool false) ∧ Below w.heap.size w w' := by
  have hb0 : ∀ o o', Below w.heap.size w ((w.alloc o).alloc o') := fun o o' => ((Below.refl _ w).alloc (Nat.le_refl _) o).alloc (by simp) o'
  replace hb0 := hid_e hb0
  have he := id_ne h
  clear h
  go_enter Tryz.func37, Tryz.ntmps37
  go_wp2_with fail
  go_ret
  exact ⟨rfl, hb0.out _ _⟩
set_option maxHeartbeats 4000000 in
set_option maxRecDepth 100000 in
theorem lcount_any (a : Option Addr) (c n : Nat) (ls : List Dc) (d : Dc) (w : World) (hn : ls.length = n) (hnn : n ≤ 1000000) (hD : DocsAt w a ls) (hV : VRep w d.t d.v5) (hone : ∀ x ∈ ls, x.id = d.id → x = d) :
    Calls Tryz.prog 28 #[.slice a n c, .agg #[.string d.id, .int .i64 d.ver, .int .i64 d.k, .int .i64 d.x, .string d.s, .slice d.an d.ln d.cn, .slice d.ai d.li d.ci]] w fun e w' => e = .returned (.int .i64 (cntId ls d.id : Nat)) ∧ Below w.heap.size w w' := by
  obtain ⟨X, hX⟩ : ∃ X, Hid (w.alloc (.cells #[.string d.id, .int .i64 d.ver, .int .i64 d.k, .int .i64 d.x, .string d.s, .slice d.an d.ln d.cn, .slice d.ai d.li d.ci] 50) = X) := ⟨_, rfl⟩
  have HB : Hid (Below w.heap.size w X) := by rw [← hX.out]; exact (Below.refl _ w).alloc (Nat.le_refl _) _
  have n1 : Hid (X.heap[w.heap.size]? = some (.cells #[.string d.id, .int .i64 d.ver, .int .i64 d.k, .int .i64 d.x, .string d.s, .slice d.an d.ln d.cn, .slice d.ai d.li d.ci] 50)) := by rw [← hX.out]; exact heap_alloc_new w _
  have k1 : (n : Int) ≤ 1000000 := by omega
  have k0 : (0 : Int) ≤ (n : Int) := by omega
  replace hn := hid_e hn
  replace hD := hid_e hD
  replace hV := hid_e hV
  replace hone := hid_e hone
  go_enter Tryz.func28, Tryz.ntmps28
  go_wp2_with (rw [hX.out])
  clear hX
  go_loopw [5, 6] (fun nv iv wr => ∃ (q m : Nat), nv = .int .i64 m ∧ iv = .int .i64 q ∧ q ≤ n ∧ m ≤ q ∧ Hid (m = cntId (ls.take q) d.id) ∧ Hid (Below X.heap.size X wr)) (fun _ iv _ => n - (intOf iv).toNat)
  case atStart => exact ⟨0, 0, rfl, rfl, Nat.zero_le _, Nat.le_refl _, (by show _ = _; simp [cntId]), Below.refl _ _⟩
  case round =>
    obtain ⟨q, m, rfl, rfl, hq, hmq, hm, hb⟩ := hrel
    have hbw : Hid (Below w.heap.size w wr) := HB.out.trans (hb.out.mono HB.out.size)
    by_cases hlt : q < n
    · have q1 : (q : Int) < (n : Int) := by omega
      have q0 : (0 : Int) ≤ (q : Int) := by omega
      have m1 : (m : Int) ≤ 1000000 := by omega
      have m0 : (0 : Int) ≤ (m : Int) := by omega
      obtain ⟨x, hx⟩ : ∃ x, Hid (ls[q]? = some x) := ⟨ls[q]'(by rw [hn.out]; omega), List.getElem?_eq_getElem (by rw [hn.out]; omega)⟩
      have hstep := cntId_step hx.out d.id
      obtain ⟨b, o, ea, hc1⟩ := (hD.out.keep hbw.out) q x hx.out
      subst ea
      unfold Dc.cells at hc1
      obtain ⟨x0, x1, x2, x3, x4, x5, x6⟩ := cells7 hc1
      clear hc1
      have n1' : Hid (wr.heap[w.heap.size]? = some (.cells #[.string d.id, .int .i64 d.ver, .int .i64 d.k, .int .i64 d.x, .string d.s, .slice d.an d.ln d.cn, .slice d.ai d.li d.ci] 50)) := block_keep n1.out hb.out
      have y0 : wr.cell? ⟨w.heap.size, 0, none⟩ = some (.string d.id) := by have h := n1'.out; simp [World.cell?, h]
      have y1 : wr.cell? ⟨w.heap.size, 1, none⟩ = some (.int .i64 d.ver) := by have h := n1'.out; simp [World.cell?, h]
      have y2 : wr.cell? ⟨w.heap.size, 2, none⟩ = some (.int .i64 d.k) := by have h := n1'.out; simp [World.cell?, h]
      have y3 : wr.cell? ⟨w.heap.size, 3, none⟩ = some (.int .i64 d.x) := by have h := n1'.out; simp [World.cell?, h]
      have y4 : wr.cell? ⟨w.heap.size, 4, none⟩ = some (.string d.s) := by have h := n1'.out; simp [World.cell?, h]
      have y5 : wr.cell? ⟨w.heap.size, 5, none⟩ = some (.slice d.an d.ln d.cn) := by have h := n1'.out; simp [World.cell?, h]
      have y6 : wr.cell? ⟨w.heap.size, 6, none⟩ = some (.slice d.ai d.li d.ci) := by have h := n1'.out; simp [World.cell?, h]
      clear n1'
      by_cases he : x.id = d.id
      · obtain rfl := hone.out x (List.mem_of_getElem? hx.out) he
        rw [if_pos rfl, ← hm.out] at hstep
        replace hstep := hid_e hstep
        have call := hid_e (fun W (hW : Below wr.heap.size wr W) => same_self x W (VRep.keep (hbw.out.trans (hW.mono hbw.out.size)) _ _ hV.out))
        clear hx
        go_upto_region 5 with fail
        refine wp_region_quiet (C := fun w' => Below wr.heap.size wr w') (by kernel_rfl) (by kernel_rfl) (below_drewN (Below.refl _ _) 1) ?_
        with_reducible refine wpQuiet_step (fun K hK => ?_)
        refine ⟨.slice (some ⟨b, o, none⟩) n c, fun w' hw' => ?_, ?_⟩
        · first | (go_simp; done) | (go_simp; decide) | (go_simp; omega)
        with_reducible refine hK _ ?_
        clear hK K
        simp only [Act.put, List.setIfInBounds_toArray, List.set_cons_zero, List.set_cons_succ]
        with_reducible refine wpQuiet_step (fun K hK => ?_)
        refine ⟨.int .i64 q, fun w' hw' => ?_, ?_⟩
        · first | (go_simp; done) | (go_simp; decide) | (go_simp; omega)
        with_reducible refine hK _ ?_
        clear hK K
        simp only [Act.put, List.setIfInBounds_toArray, List.set_cons_zero, List.set_cons_succ]
        with_reducible refine wpQuiet_step (fun K hK => ?_)
        refine ⟨.pointer (some ⟨b, o + q * 7, none⟩), fun w' hw' => ?_, ?_⟩
        · first | (go_simp; done) | (go_simp; decide) | (go_simp; omega)
        with_reducible refine hK _ ?_
        clear hK K
        simp only [Act.put, List.setIfInBounds_toArray, List.set_cons_zero, List.set_cons_succ]
        with_reducible refine wpQuiet_step (fun K hK => ?_)
        refine ⟨.agg #[.string x.id, .int .i64 x.ver, .int .i64 x.k, .int .i64 x.x, .string x.s, .slice x.an x.ln x.cn, .slice x.ai x.li x.ci], fun w' hw' => ?_, ?_⟩
        · have t0 := stay hw' x0; have t1 := stay hw' x1; have t2 := stay hw' x2; have t3 := stay hw' x3; have t4 := stay hw' x4; have t5 := stay hw' x5; have t6 := stay hw' x6; go_simp
        with_reducible refine hK _ ?_
        clear hK K
        simp only [Act.put, List.setIfInBounds_toArray, List.set_cons_zero, List.set_cons_succ]
        with_reducible refine wpQuiet_step (fun K hK => ?_)
        refine ⟨.agg #[.string x.id, .int .i64 x.ver, .int .i64 x.k, .int .i64 x.x, .string x.s, .slice x.an x.ln x.cn, .slice x.ai x.li x.ci], fun w' hw' => ?_, ?_⟩
        · have t0 := stay hw' y0; have t1 := stay hw' y1; have t2 := stay hw' y2; have t3 := stay hw' y3; have t4 := stay hw' y4; have t5 := stay hw' y5; have t6 := stay hw' y6; go_simp
        with_reducible refine hK _ ?_
        clear hK K
        simp only [Act.put, List.setIfInBounds_toArray, List.set_cons_zero, List.set_cons_succ]
        with_reducible refine wpQuiet_step (fun K hK => ?_)
        refine ⟨.bool true, fun w' hw' => ?_, ?_⟩
        · go_simp
          refine (call.out w' hw').mono ?_
          rintro e w'' ⟨rfl, hb'⟩
          exact ⟨rfl, hw'.trans (hb'.mono hw'.size)⟩
        with_reducible refine hK _ ?_
        clear hK K
        simp only [Act.put, List.setIfInBounds_toArray, List.set_cons_zero, List.set_cons_succ]
        refine wpQuiet_nil ?_
        intro X1 hX1
        have hb' := hid_e (hb.out.trans (hX1.mono hb.out.size))
        clear x0 x1 x2 x3 x4 x5 x6 y0 y1 y2 y3 y4 y5 y6 call hX1 hb hbw
        go_wp2_with fail
        exact ⟨⟨q + 1, m + 1, by go_num, by go_num, by omega, by omega, hstep.out.symm, hb'⟩, by simp [intOf]; omega⟩
      · rw [if_neg he, ← hm.out, Nat.add_zero] at hstep
        replace hstep := hid_e hstep
        have call := hid_e (fun W => same_diff x d W he)
        clear hx he
        go_upto_region 5 with fail
        refine wp_region_quiet (C := fun w' => Below wr.heap.size wr w') (by kernel_rfl) (by kernel_rfl) (below_drewN (Below.refl _ _) 1) ?_
        with_reducible refine wpQuiet_step (fun K hK => ?_)
        refine ⟨.slice (some ⟨b, o, none⟩) n c, fun w' hw' => ?_, ?_⟩
        · first | (go_simp; done) | (go_simp; decide) | (go_simp; omega)
        with_reducible refine hK _ ?_
        clear hK K
        simp only [Act.put, List.setIfInBounds_toArray, List.set_cons_zero, List.set_cons_succ]
        with_reducible refine wpQuiet_step (fun K hK => ?_)
        refine ⟨.int .i64 q, fun w' hw' => ?_, ?_⟩
        · first | (go_simp; done) | (go_simp; decide) | (go_simp; omega)
        with_reducible refine hK _ ?_
        clear hK K
        simp only [Act.put, List.setIfInBounds_toArray, List.set_cons_zero, List.set_cons_succ]
        with_reducible refine wpQuiet_step (fun K hK => ?_)
        refine ⟨.pointer (some ⟨b, o + q * 7, none⟩), fun w' hw' => ?_, ?_⟩
        · first | (go_simp; done) | (go_simp; decide) | (go_simp; omega)
        with_reducible refine hK _ ?_
        clear hK K
        simp only [Act.put, List.setIfInBounds_toArray, List.set_cons_zero, List.set_cons_succ]
        with_reducible refine wpQuiet_step (fun K hK => ?_)
        refine ⟨.agg #[.string x.id, .int .i64 x.ver, .int .i64 x.k, .int .i64 x.x, .string x.s, .slice x.an x.ln x.cn, .slice x.ai x.li x.ci], fun w' hw' => ?_, ?_⟩
        · have t0 := stay hw' x0; have t1 := stay hw' x1; have t2 := stay hw' x2; have t3 := stay hw' x3; have t4 := stay hw' x4; have t5 := stay hw' x5; have t6 := stay hw' x6; go_simp
        with_reducible refine hK _ ?_
        clear hK K
        simp only [Act.put, List.setIfInBounds_toArray, List.set_cons_zero, List.set_cons_succ]
        with_reducible refine wpQuiet_step (fun K hK => ?_)
        refine ⟨.agg #[.string d.id, .int .i64 d.ver, .int .i64 d.k, .int .i64 d.x, .string d.s, .slice d.an d.ln d.cn, .slice d.ai d.li d.ci], fun w' hw' => ?_, ?_⟩
        · have t0 := stay hw' y0; have t1 := stay hw' y1; have t2 := stay hw' y2; have t3 := stay hw' y3; have t4 := stay hw' y4; have t5 := stay hw' y5; have t6 := stay hw' y6; go_simp
        with_reducible refine hK _ ?_
        clear hK K
        simp only [Act.put, List.setIfInBounds_toArray, List.set_cons_zero, List.set_cons_succ]
        with_reducible refine wpQuiet_step (fun K hK => ?_)
        refine ⟨.bool false, fun w' hw' => ?_, ?_⟩
        · go_simp
          refine (call.out w').mono ?_
          rintro e w'' ⟨rfl, hb'⟩
          exact ⟨rfl, hw'.trans (hb'.mono hw'.size)⟩
        with_reducible refine hK _ ?_
        clear hK K
        simp only [Act.put, List.setIfInBounds_toArray, List.set_cons_zero, List.set_cons_succ]
        refine wpQuiet_nil ?_
        intro X1 hX1
        have hb' := hid_e (hb.out.trans (hX1.mono hb.out.size))
        clear x0 x1 x2 x3 x4 x5 x6 y0 y1 y2 y3 y4 y5 y6 call hX1 hb hbw
        go_wp2_with fail
        exact ⟨⟨q + 1, m, by go_num, by go_num, by omega, by omega, hstep.out.symm, hb'⟩, by simp [intOf]; omega⟩
    · obtain rfl : q = n := by omega
      have q1 : ¬ (q : Int) < (q : Int) := by omega
      rw [List.take_of_length_le (by rw [hn.out]; exact Nat.le_refl _)] at hm
      have hm' := hm.out
      subst hm'
      clear hm
      go_wp2_with fail
      go_ret
      exact ⟨rfl, hbw.out⟩
end Go.Proofs.YtkgcmcpakilacaaGreat.Tree
