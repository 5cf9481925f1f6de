import Derived.Test.YtelmdbfddmpaaaaJ1
/-! Every Get and All: the walk, first half. -/
namespace Go.Proofs.Ytelmdbfddmpaaaa
open Go Go.RowKit

def zeroT : Tr := .node 0 0 ⟨#[]⟩ [] []
theorem got_u {w : World} {r : Option Tr} {e : Ending} {w' : World} (h : Got w r e w') : Below w.heap.size w w' ∧ ∃ (k x : Int) (s : ByteArray) (an : Option Addr) (ln cn : Nat) (ai : Option Addr) (li ci : Nat), e = .returned (.tuple #[.agg #[.int .i64 k, .int .i64 x, .string s, .slice an ln cn, .slice ai li ci], .bool r.isSome]) ∧ VRep w' (r.getD zeroT) (five k x s (.slice an ln cn) (.slice ai li ci)) := by
  obtain ⟨hb, h⟩ := h
  cases r with
  | none => exact ⟨hb, 0, 0, ⟨#[]⟩, none, 0, 0, none, 0, 0, h, zero_rep w'⟩
  | some u =>
    obtain ⟨cs, he, hv⟩ := h
    obtain ⟨k, x, s, an, ln, cn, ai, li, ci, rfl⟩ := vrep_five hv
    exact ⟨hb, k, x, s, an, ln, cn, ai, li, ci, he, hv⟩
theorem gotr_u {W0 w : World} {r : Option Tr} {e : Ending} {w' : World} (h : GotR W0 w r e w') : Below w.heap.size w w' ∧ ∃ (k x : Int) (s : ByteArray) (an : Option Addr) (ln cn : Nat) (ai : Option Addr) (li ci : Nat), e = .returned (.tuple #[.agg #[.int .i64 k, .int .i64 x, .string s, .slice an ln cn, .slice ai li ci], .bool r.isSome]) ∧ VRep W0 (r.getD zeroT) (five k x s (.slice an ln cn) (.slice ai li ci)) := by
  obtain ⟨hb, k, x, s, an, ln, cn, ai, li, ci, he, h1, h2⟩ := h
  refine ⟨hb, k, x, s, an, ln, cn, ai, li, ci, he, ?_⟩
  cases r with
  | none => exact h2 rfl
  | some u => exact h1 u rfl
theorem block_keep {w wx : World} {g : Nat} {o : Obj} (h : w.heap[g]? = some o) (hb : Below w.heap.size w wx) : wx.heap[g]? = some o := (hb.block _ (Array.getElem?_eq_some_iff.1 h).1).trans h
theorem ItemsRep.keep {W W' : World} (hb : Below W.heap.size W W') : {ts : List Tr} → {xs : List Value} → ItemsRep W ts xs → ItemsRep W' ts xs
  | [], xs, h => by unfold ItemsRep at *; exact h
  | t :: ts, xs, h => by
    unfold ItemsRep at *
    obtain ⟨cs, r, h1, h2, h3, h4⟩ := h
    exact ⟨cs, r, h1, h2, VRep.keep hb _ _ h3, ItemsRep.keep hb h4⟩
theorem row_list {W0 X : World} {lo : Nat} {fv : Value} {ts : List Tr} {xs : List Value} (h : X.ownsRow lo 25 5 fv ts.length xs) (hI : ItemsRep W0 ts xs) (hW : Below W0.heap.size W0 X) : ∃ a c, fv = .slice a ts.length c ∧ (ts = [] ∨ ∃ b o, a = some ⟨b, o, none⟩ ∧ b < X.heap.size ∧ VRepL X b o ts) := by
  rcases h.2 with ⟨hv, h0⟩ | ⟨g, cap, cur, hv, hg, hh, r⟩
  · exact ⟨none, 0, by rw [hv, h0], .inl (List.eq_nil_of_length_eq_zero h0)⟩
  · subst hv
    refine ⟨_, _, rfl, .inr ⟨g, 0, rfl, (Array.getElem?_eq_some_iff.1 hh).1, ?_⟩⟩
    exact ItemsRep.list ts xs 0 (ItemsRep.keep hW hI) (fun j u hj => by rw [Nat.zero_add]; exact row_cell h j u hj)
theorem row_at {W0 X : World} {lo : Nat} {a : Option Addr} {c : Nat} {ts : List Tr} {xs : List Value} (h : X.ownsRow lo 25 5 (.slice a ts.length c) ts.length xs) (hI : ItemsRep W0 ts xs) (hW : Below W0.heap.size W0 X) : ts = [] ∨ ∃ b o, a = some ⟨b, o, none⟩ ∧ b < X.heap.size ∧ VRepL X b o ts := by
  obtain ⟨a', c', e, h⟩ := row_list h hI hW
  cases e
  exact h
theorem grown_alloc {Z W : World} {r : Option Nat} (h : Z.grownBy W r) (o : Obj) : Z.grownBy (W.alloc o) r := ⟨h.os, h.tape, h.output, by rw [World.size_alloc]; have := h.size; omega, fun k hk hkr => (Below.heap_alloc W o k (by have := h.size; omega)).trans (h.block k hk hkr)⟩
theorem grown_then {Z W W' : World} {r q : Option Nat} (h : Z.grownBy W r) (h' : W.grownBy W' q) (hq : ∀ g, q = some g → r = some g ∨ Z.heap.size ≤ g) : Z.grownBy W' r :=
  ⟨h'.os.trans h.os, h'.tape.trans h.tape, h'.output.trans h.output, Nat.le_trans h.size h'.size, fun k hk hkr => (h'.block k (by have := h.size; omega) (fun e => by rcases hq k e.symm with h1 | h1; exact hkr h1.symm; omega)).trans (h.block k hk hkr)⟩
def set5 (W : World) (g o : Nat) (a0 a1 a2 a3 a4 : Value) : World := ((((W.setCell ⟨g, o, none⟩ a0).setCell ⟨g, o + 1, none⟩ a1).setCell ⟨g, o + 2, none⟩ a2).setCell ⟨g, o + 3, none⟩ a3).setCell ⟨g, o + 4, none⟩ a4
theorem set_block {W : World} {g o : Nat} {cur : Array Value} {t : TypeId} {fr : Nat × Nat} (h : W.heap[g]? = some (.cells cur t fr)) (v : Value) : (W.setCell ⟨g, o, none⟩ v).heap[g]? = some (.cells (cur.setIfInBounds o v) t fr) := by
  simp [World.setCell, Array.getElem?_modify, h]
theorem set5_far {W : World} {g o k : Nat} (a0 a1 a2 a3 a4 : Value) (hk : k ≠ g) : (set5 W g o a0 a1 a2 a3 a4).heap[k]? = W.heap[k]? := by
  unfold set5
  rw [Below.heap_setCell _ _ _ _ hk, Below.heap_setCell _ _ _ _ hk, Below.heap_setCell _ _ _ _ hk, Below.heap_setCell _ _ _ _ hk, Below.heap_setCell _ _ _ _ hk]
theorem grown_set5 {Z W : World} {g : Nat} {r : Option Nat} (h : Z.grownBy W r) (hr : r = some g) (o : Nat) (a0 a1 a2 a3 a4 : Value) : Z.grownBy (set5 W g o a0 a1 a2 a3 a4) r :=
  ⟨(by unfold set5; rw [set_os, set_os, set_os, set_os, set_os]; exact h.os), (by unfold set5; rw [set_tape, set_tape, set_tape, set_tape, set_tape]; exact h.tape), (by unfold set5; rw [set_out, set_out, set_out, set_out, set_out]; exact h.output), (by have := h.size; simp [set5, World.setCell]; omega), fun k hk hkr => (set5_far _ _ _ _ _ (fun e => hkr (by rw [hr, e]))).trans (h.block k hk hkr)⟩
theorem own_set5 {W : World} {lo g n cap : Nat} {xs : List Value} (h : W.ownsRow lo 25 5 (.slice (some ⟨g, 0, none⟩) n cap) n xs) (o : Nat) (a0 a1 a2 a3 a4 : Value) : ∃ ys, (set5 W g o a0 a1 a2 a3 a4).ownsRow lo 25 5 (.slice (some ⟨g, 0, none⟩) n cap) n ys := by
  rcases h.2 with ⟨hv, _⟩ | ⟨g', cap', cur, hv, hg, hh, hc, hm, hs, hr⟩
  · cases hv
  · cases hv
    have hb : (set5 W g o a0 a1 a2 a3 a4).heap[g]? = some (.cells (((((cur.setIfInBounds o a0).setIfInBounds (o + 1) a1).setIfInBounds (o + 2) a2).setIfInBounds (o + 3) a3).setIfInBounds (o + 4) a4) 25 (0, 0)) := by
      unfold set5
      exact set_block (set_block (set_block (set_block (set_block hh a0) a1) a2) a3) a4
    refine ⟨_, ?_, .inr ⟨g, cap, _, rfl, hg, hb, hc, hm, by simpa using hs, rfl⟩⟩
    simp only [List.length_take, Array.length_toList, Array.size_setIfInBounds]
    omega

set_option maxHeartbeats 1600000 in
set_option maxRecDepth 100000 in
theorem looks_true (k x : Int) (s : ByteArray) (an : Option Addr) (ln cn : Nat) (ai : Option Addr) (li ci : Nat) (t : Tr) (a : Option Addr) (c : Nat) (l : List ByteArray) (w : World) (hV : Hid (VRep w t (five k x s (.slice an ln cn) (.slice ai li ci)))) (hS : Hid (SmallT t)) (hP : Hid (Reads w (.slice a l.length c) l)) (hl : l.length * 16 + 48 ≤ 140737488355328) (hSz : Hid (∀ s ∈ l, s.size ≤ 9223372036854775806)) :
    Calls Try.prog 4 #[.agg #[.int .i64 k, .int .i64 x, .string s, .slice an ln cn, .slice ai li ci], .slice a l.length c] w fun e w' => e = .returned (.bool true) ∧ Below w.heap.size w w' := by
  obtain ⟨i5, hi5, hz0, hz1, hz2⟩ := info_parts F25
  obtain ⟨G, hG⟩ : ∃ G, Hid (getT t l = G) := ⟨_, rfl⟩
  obtain ⟨T, hT⟩ : ∃ T, Hid (allF (SizeOf.sizeOf t) t l = T) := ⟨_, rfl⟩
  have hlg : ∀ o p, Hid (Calls Try.prog 6 #[.slice (some ⟨w.heap.size + 1, 0, none⟩) 1 1] ((w.alloc o).alloc (.cells #[.int .i64 k, .int .i64 x, .string s, .slice an ln cn, .slice ai li ci] p)) fun e w' => (∃ z, e = .returned (.bool z) ∧ LargeOk z t) ∧ Below ((w.alloc o).alloc (.cells #[.int .i64 k, .int .i64 x, .string s, .slice an ln cn, .slice ai li ci] p)).heap.size ((w.alloc o).alloc (.cells #[.int .i64 k, .int .i64 x, .string s, .slice an ln cn, .slice ai li ci] p)) w') := fun o p => hid_f (large_t t k x s an ln cn ai li ci (w.heap.size + 1) 1 ((w.alloc o).alloc (.cells #[.int .i64 k, .int .i64 x, .string s, .slice an ln cn, .slice ai li ci] p)) (hid_f (VRep.keep (below_two w _ _) _ _ hV.out)) hS (fun j u hj => by
    rw [Nat.zero_add]
    unfold World.cell?
    rw [new2 w o (.cells #[.int .i64 k, .int .i64 x, .string s, .slice an ln cn, .slice ai li ci] p)]
    simpa [five] using hj))
  go_enter Try.func4, Try.ntmps4
  go_wp2_with fail
  go_fit (hlg _ _).out
  rintro e X ⟨⟨z, rfl, hz⟩, hb⟩
  replace hz := hid_f hz
  have HB : Below w.heap.size w X := (below_two w _ _).trans (hb.mono (by simp only [World.size_alloc]; omega))
  have h0 : X.heap[w.heap.size]? = some (.cells #[.int .i64 k, .int .i64 x, .string s, .slice an ln cn, .slice ai li ci] 25 (0, 0)) := (hb.block _ (by simp only [World.size_alloc]; omega)).trans (new1 w _ _)
  clear hb hlg
  cases z
  · by_cases h1000 : 1000 < l.length
    · have hd0 : decide ((1000 : Int) < (l.length : Int)) = true := by simp; omega
      go_wp2_with fail
      refine (live_true _).mono ?_
      rintro e w9 ⟨rfl, hb9⟩
      go_wp2_with fail
      go_ret
      exact ⟨rfl, HB.trans (hb9.mono HB.size)⟩
    · have hd0 : decide ((1000 : Int) < (l.length : Int)) = false := by simp; omega
      have hpt : Hid (partsT t ≤ 5000) := hz.out rfl
      have hTl : Hid (T.length ≤ 5000) := hid_f (by rw [← hT.out]; have h1 := allF_len (SizeOf.sizeOf t) l t; have h2 := hpt.out; omega)
      obtain ⟨y0, y1, y2, y3, y4, -⟩ := row_cells h0
      have hcp := hid_f (copyv_any t (five k x s (.slice an ln cn) (.slice ai li ci)) X (VRep.keep HB _ _ hV.out) hS.out)
      go_wp2_with fail
      clear y0 y1 y2 y3 y4
      go_fit hcp.out
      rintro e Y ⟨kg, xg, sg, ang, lng, cng, aig, lig, cig, rfl, hsg, hb⟩
      have hvg := hid_f (VRep.keep ((Below.refl _ Y).alloc (Nat.le_refl _) (.cells #[.int .i64 kg, .int .i64 xg, .string sg, .slice ang lng cng, .slice aig lig cig] 25)) _ _ hsg.rep)
      have hgk := heap_alloc_new Y (.cells #[.int .i64 kg, .int .i64 xg, .string sg, .slice ang lng cng, .slice aig lig cig] 25)
      replace hb := hb.alloc hb.size (.cells #[.int .i64 kg, .int .i64 xg, .string sg, .slice ang lng cng, .slice aig lig cig] 25)
      replace HB := HB.trans ((hb).mono HB.size)
      replace h0 := block_keep h0 (hb)
      clear hb hsg hcp hd0
      go_upto_region 4 with fail
      generalize Y.alloc (.cells #[.int .i64 kg, .int .i64 xg, .string sg, .slice ang lng cng, .slice aig lig cig] 25) = X1 at hvg hgk HB h0 ⊢
      obtain ⟨bg, hbg⟩ : ∃ g, Y.heap.size = g := ⟨_, rfl⟩
      rw [hbg] at hgk
      rw [hbg]
      clear hbg
      have how := hid_f (own_any (.slice a l.length c) l X1 (hP.out.keep HB) hl)
      go_wp2_with fail
      go_fit how.out
      rintro e X2 ⟨pv, rfl, hO, hb⟩
      replace HB := HB.trans ((hb).mono HB.size)
      replace h0 := block_keep h0 (hb)
      replace hgk := block_keep hgk (hb)
      replace hvg := hid_f (VRep.keep hb _ _ hvg.out)
      obtain ⟨gp, cp, rfl, -⟩ := id hO
      replace hO := hid_f hO
      clear hb how
      have hgt := hid_f (get_any t (five kg xg sg (.slice ang lng cng) (.slice aig lig cig)) (.slice (some ⟨gp, 0, none⟩) l.length cp) l X2 hvg.out hO.out.reads (by omega) hSz)
      rw [hG.out] at hgt
      obtain ⟨y0, y1, y2, y3, y4, -⟩ := row_cells hgk
      go_wp2_with fail
      clear y0 y1 y2 y3 y4
      go_fit hgt.out
      intro e X3 hgot
      obtain ⟨hb, kp, xp, sp, anp, lnp, cnp, aip, lip, cip, rfl, hvp⟩ := got_u hgot
      clear hgot hgt
      replace hvp := hid_f (VRep.keep ((Below.refl _ X3).alloc (Nat.le_refl _) (.cells #[.int .i64 kp, .int .i64 xp, .string sp, .slice anp lnp cnp, .slice aip lip cip] 25)) _ _ hvp)
      have hxk := heap_alloc_new X3 (.cells #[.int .i64 kp, .int .i64 xp, .string sp, .slice anp lnp cnp, .slice aip lip cip] 25)
      replace hb := hb.alloc hb.size (.cells #[.int .i64 kp, .int .i64 xp, .string sp, .slice anp lnp cnp, .slice aip lip cip] 25)
      replace HB := HB.trans ((hb).mono HB.size)
      replace h0 := block_keep h0 (hb)
      replace hgk := block_keep hgk (hb)
      replace hvg := hid_f (VRep.keep hb _ _ hvg.out)
      replace hO := hid_f (hO.out.keep hb)
      clear hb
      go_upto_region 6 with fail
      generalize X3.alloc (.cells #[.int .i64 kp, .int .i64 xp, .string sp, .slice anp lnp cnp, .slice aip lip cip] 25) = X4 at hvg hgk HB h0 hxk hvp hO ⊢
      obtain ⟨bp, hbp⟩ : ∃ g, X3.heap.size = g := ⟨_, rfl⟩
      rw [hbp] at hxk
      rw [hbp]
      clear hbp
      have hrg := hid_f (rget_any w l t (five k x s (.slice an ln cn) (.slice ai li ci)) (.slice a l.length c) X4 HB hV.out hP.out hSz.out)
      rw [hG.out] at hrg
      obtain ⟨y0, y1, y2, y3, y4, -⟩ := row_cells h0
      go_wp2_with fail
      clear y0 y1 y2 y3 y4
      go_fit hrg.out
      intro e X5 hgot
      obtain ⟨hb, kq, xq, sq, anq, lnq, cnq, aiq, liq, ciq, rfl, hvq⟩ := gotr_u hgot
      clear hgot hrg
      have hyk := heap_alloc_new X5 (.cells #[.int .i64 kq, .int .i64 xq, .string sq, .slice anq lnq cnq, .slice aiq liq ciq] 25)
      replace hb := hb.alloc hb.size (.cells #[.int .i64 kq, .int .i64 xq, .string sq, .slice anq lnq cnq, .slice aiq liq ciq] 25)
      replace HB := HB.trans ((hb).mono HB.size)
      replace h0 := block_keep h0 (hb)
      replace hgk := block_keep hgk (hb)
      replace hxk := block_keep hxk (hb)
      replace hvg := hid_f (VRep.keep hb _ _ hvg.out)
      replace hvp := hid_f (VRep.keep hb _ _ hvp.out)
      replace hO := hid_f (hO.out.keep hb)
      replace hvq := hid_f hvq
      clear hb
      go_upto_region 7 with fail
      generalize X5.alloc (.cells #[.int .i64 kq, .int .i64 xq, .string sq, .slice anq lnq cnq, .slice aiq liq ciq] 25) = X6 at hvg hgk HB h0 hxk hvp hO hyk ⊢
      obtain ⟨bq, hbq⟩ : ∃ g, X5.heap.size = g := ⟨_, rfl⟩
      rw [hbq] at hyk
      rw [hbq]
      clear hbq
      have hall := hid_f (fun W (hW : Below X6.heap.size X6 W) => all_any (SizeOf.sizeOf t) X6 t kg xg sg ang lng cng aig lig cig (.slice (some ⟨gp, 0, none⟩) l.length cp) l W (Nat.le_refl _) hW hvg.out hO.out.reads hSz.out (by omega) (by have := hpt.out; omega))
      rw [hT.out] at hall
      have HX : Below X6.heap.size X6 X6.drew := below_drew (Below.refl _ _)
      replace HB : Below w.heap.size w X6.drew := below_drew HB
      replace h0 : X6.drew.heap[w.heap.size]? = _ := h0
      replace hgk : X6.drew.heap[bg]? = _ := hgk
      replace hxk : X6.drew.heap[bp]? = _ := hxk
      replace hyk : X6.drew.heap[bq]? = _ := hyk
      have hXw : Hid (w.heap.size ≤ X6.heap.size) := hid_f HB.size
      have hBX : Hid (w.heap.size < X6.heap.size) := hid_f (Array.getElem?_eq_some_iff.1 h0).1
      have hGX : Hid (bg < X6.heap.size) := hid_f (Array.getElem?_eq_some_iff.1 hgk).1
      generalize hZ : X6.drew = Z at HX HB h0 hgk hxk hyk
      refine wp_region_noPanic ?_
      refine Until.wp_region_U (fun w' => w'.heap[bg]? = some (.cells #[.int .i64 kg, .int .i64 xg, .string sg, .slice ang lng cng, .slice aig lig cig] 25 (0, 0))) (fun _ => True) 7 (by kernel_rfl) ?_
      rw [hZ]
      clear hZ
      refine Until.wpU_load0 (i := 0) (oi := { dst := some 41, op := Op.load 25 (Operand.tmp 5), type := 25, pos := "law.go:111", after := #[], guard := none }) (v := .agg #[.int .i64 kg, .int .i64 xg, .string sg, .slice ang lng cng, .slice aig lig cig]) rfl (by kernel_rfl) (by kernel_rfl) (by kernel_rfl) (by kernel_rfl) (by kernel_rfl) (fun _ _ _ h => h) (hgk) (fun _ => trivial) (by rfl) (by intro w' hw'; obtain ⟨t0, t1, t2, t3, t4, -⟩ := row_cells hw'; clear hw'; go_simp) ?_
      try simp only [Act.put, List.setIfInBounds_toArray, List.set_cons_zero, List.set_cons_succ]
      refine Until.wpU_pure (i := 1) (oi := { dst := some 42, op := Op.move (Operand.tmp 6), type := 22, pos := "law.go:111", after := #[], guard := none }) (v := .slice (some ⟨gp, 0, none⟩) l.length cp) rfl (by kernel_rfl) (by kernel_rfl) (by kernel_rfl) (by kernel_rfl) (by kernel_rfl) (fun _ _ _ h => h) (hgk) (fun _ => trivial) (by rfl) (by intro w'; go_simp) ?_
      try simp only [Act.put, List.setIfInBounds_toArray, List.set_cons_zero, List.set_cons_succ]
      refine Until.wpU_load0 (i := 3) (oi := { dst := some 44, op := Op.load 25 (Operand.tmp 5), type := 25, pos := "law.go:111", after := #[], guard := none }) (v := .agg #[.int .i64 kg, .int .i64 xg, .string sg, .slice ang lng cng, .slice aig lig cig]) rfl (by kernel_rfl) (by kernel_rfl) (by kernel_rfl) (by kernel_rfl) (by kernel_rfl) (fun _ _ _ h => h) (hgk) (fun _ => trivial) (by rfl) (by intro w' hw'; obtain ⟨t0, t1, t2, t3, t4, -⟩ := row_cells hw'; clear hw'; go_simp) ?_
      try simp only [Act.put, List.setIfInBounds_toArray, List.set_cons_zero, List.set_cons_succ]
      refine Until.wpU_pure (i := 4) (oi := { dst := some 45, op := Op.move (Operand.tmp 6), type := 22, pos := "law.go:111", after := #[], guard := none }) (v := .slice (some ⟨gp, 0, none⟩) l.length cp) rfl (by kernel_rfl) (by kernel_rfl) (by kernel_rfl) (by kernel_rfl) (by kernel_rfl) (fun _ _ _ h => h) (hgk) (fun _ => trivial) (by rfl) (by intro w'; go_simp) ?_
      try simp only [Act.put, List.setIfInBounds_toArray, List.set_cons_zero, List.set_cons_succ]
      refine Until.wpU_ready (rs := [2]) (by kernel_rfl) (by simp) ?_
      refine (Until.AllU.cons (o := { dst := some 43, op := Op.call { callee := Callee.value (Operand.func 11), args := #[Operand.tmp 41, Operand.tmp 42], argTypes := #[25, 22] }, type := 23, pos := "law.go:111", after := #[{ on := 0, ground := Ground.data }, { on := 1, ground := Ground.data }], guard := none }) rfl (fun K hK => ?_) Until.AllU.nil)
      go_simp
      refine (hall.out Z HX).mono ?_
      rintro e Z1 ⟨fl, xl, rfl, rl, il, hb⟩
      simp only [Nat.zero_add, List.nil_append] at rl il
      replace HB := HB.trans ((hb).mono HB.size)
      replace h0 := block_keep h0 (hb)
      replace hgk := block_keep hgk (hb)
      replace hxk := block_keep hxk (hb)
      replace hyk := block_keep hyk (hb)
      have HX1 := HX.trans (hb.mono HX.size)
      have hzz := hid_f hb.size
      replace rl := hid_f rl
      replace il := hid_f il
      clear hb
      refine hK.out _ _ hgk (fun _ => trivial) ?_
      clear hK K
      try simp only [Act.put, List.setIfInBounds_toArray, List.set_cons_zero, List.set_cons_succ]
      refine Until.wpU_ready (rs := [5]) (by kernel_rfl) (by simp) ?_
      refine (Until.AllU.cons (o := { dst := some 46, op := Op.call { callee := Callee.value (Operand.func 11), args := #[Operand.tmp 44, Operand.tmp 45], argTypes := #[25, 22] }, type := 23, pos := "law.go:111", after := #[{ on := 3, ground := Ground.data }, { on := 4, ground := Ground.data }, { on := 2, ground := Ground.chain }], guard := none }) rfl (fun K hK => ?_) Until.AllU.nil)
      go_simp
      refine (hall.out Z1 HX1).mono ?_
      rintro e Z2 ⟨fk, xk, rfl, rk, ik, hb⟩
      simp only [Nat.zero_add, List.nil_append] at rk ik
      replace HB := HB.trans ((hb).mono HB.size)
      replace h0 := block_keep h0 (hb)
      replace hgk := block_keep hgk (hb)
      replace hxk := block_keep hxk (hb)
      replace hyk := block_keep hyk (hb)
      have HX2 := HX1.trans (hb.mono HX1.size)
      have hsep : Hid (∀ g, fl.ownBlock = some g → X6.heap.size ≤ g ∧ g < Z1.heap.size) := hid_f (fun g hg => by have h1 := ownsRow_ge rl.out hg; have h2 := HX.size; exact ⟨by omega, h1.2⟩)
      have hz12 := hid_f hb.size
      replace rl := hid_f (ownsRow_below rl.out hb)
      replace rk := hid_f rk
      replace ik := hid_f ik
      clear hb
      refine hK.out _ _ hgk (fun _ => trivial) ?_
      clear hK K
      try simp only [Act.put, List.setIfInBounds_toArray, List.set_cons_zero, List.set_cons_succ]
      refine Until.wpU_ready (rs := [6]) (by kernel_rfl) (by simp) ?_
      refine (Until.AllU.cons (o := { dst := some 11, op := Op.assign (Operand.tmp 43), type := 23, pos := "law.go:111", after := #[{ on := 2, ground := Ground.data }, { on := 5, ground := Ground.chain }, { on := 0, ground := Ground.phase }, { on := 1, ground := Ground.phase }, { on := 2, ground := Ground.phase }, { on := 3, ground := Ground.textOnly Departure.lateStores }, { on := 4, ground := Ground.textOnly Departure.lateStores }, { on := 5, ground := Ground.textOnly Departure.lateStoresUnsure }], guard := none }) rfl (fun K hK => ?_) Until.AllU.nil)
      go_simp
      refine hK.out _ _ hgk (fun _ => trivial) ?_
      clear hK K
      try simp only [Act.put, List.setIfInBounds_toArray, List.set_cons_zero, List.set_cons_succ]
      refine Until.wpU_ready (rs := [7]) (by kernel_rfl) (by simp) ?_
      refine (Until.AllU.cons (o := { dst := some 12, op := Op.assign (Operand.tmp 46), type := 23, pos := "law.go:111", after := #[{ on := 5, ground := Ground.data }, { on := 6, ground := Ground.chain }, { on := 0, ground := Ground.phase }, { on := 1, ground := Ground.phase }, { on := 2, ground := Ground.phase }, { on := 3, ground := Ground.phase }, { on := 4, ground := Ground.phase }, { on := 5, ground := Ground.phase }, { on := 6, ground := Ground.phase }], guard := none }) rfl (fun K hK => ?_) Until.AllU.nil)
      go_simp
      refine hK.out _ _ hgk (fun _ => trivial) ?_
      clear hK K
      try simp only [Act.put, List.setIfInBounds_toArray, List.set_cons_zero, List.set_cons_succ]
      refine Until.wpU_done (by kernel_rfl) ?_ _
      refine NoPanic.normal ?_
      clear hall HX HX1
      have hra := hid_f (rall_ok (SizeOf.sizeOf t) w t (five k x s (.slice an ln cn) (.slice ai li ci)) (.slice a l.length c) l Z2 (Nat.le_refl _) HB hV.out hP.out hSz.out (by omega) (by have := hpt.out; omega))
      rw [hT.out] at hra
      obtain ⟨y0, y1, y2, y3, y4, -⟩ := row_cells h0
      go_wp2_with fail
      clear y0 y1 y2 y3 y4
      go_fit hra.out
      rintro e Z3 ⟨fm, xm, rfl, rm, im, hb⟩
      simp only [Nat.zero_add, List.nil_append] at rm im
      replace HB := HB.trans ((hb).mono HB.size)
      replace h0 := block_keep h0 (hb)
      replace hgk := block_keep hgk (hb)
      replace hxk := block_keep hxk (hb)
      replace hyk := block_keep hyk (hb)
      replace HX2 := HX2.trans (hb.mono HX2.size)
      have hz23 := hid_f hb.size
      replace rl := hid_f (ownsRow_below rl.out hb)
      replace rk := hid_f (ownsRow_below rk.out hb)
      replace rm := hid_f rm
      replace im := hid_f im
      clear hb hra
      obtain ⟨al, cl, rfl⟩ := ownsRow_slice rl.out
      obtain ⟨ak, ck, rfl⟩ := ownsRow_slice rk.out
      obtain ⟨am, cm, rfl⟩ := ownsRow_slice rm.out
      have hvx := hid_f (equal_law (G.getD zeroT) kp xp sp anp lnp cnp aip lip cip kq xq sq anq lnq cnq aiq liq ciq Z3 (VRep.keep HX2 _ _ hvp.out) (VRep.keep HB _ _ hvq.out))
      obtain ⟨y0, y1, y2, y3, y4, -⟩ := row_cells hxk
      obtain ⟨z0, z1, z2, z3, z4, -⟩ := row_cells hyk
      go_wp2_with fail
      clear y0 y1 y2 y3 y4
      clear z0 z1 z2 z3 z4
      go_fit hvx.out
      rintro e Z4 ⟨rfl, hb⟩
      replace HB := HB.trans ((hb).mono HB.size)
      replace h0 := block_keep h0 (hb)
      replace hgk := block_keep hgk (hb)
      replace HX2 := HX2.trans (hb.mono HX2.size)
      have hz34 := hid_f hb.size
      replace rl := hid_f (ownsRow_below rl.out hb)
      replace rk := hid_f (ownsRow_below rk.out hb)
      replace rm := hid_f (ownsRow_below rm.out hb)
      clear hb hvx hxk hyk hvp hvq
      have hTl2 : T.length ≤ 5000 := hTl.out
      have hv1 := hid_f (values_same al am cl cm T Z4 (by omega) (hid_f (row_at rl.out il.out HX2)) (hid_f (row_at rm.out im.out HB)))
      go_wp2_with fail
      go_fit hv1.out
      rintro e Z5 ⟨rfl, hb⟩
      replace HB := HB.trans ((hb).mono HB.size)
      replace h0 := block_keep h0 (hb)
      replace hgk := block_keep hgk (hb)
      replace HX2 := HX2.trans ((hb).mono HX2.size)
      replace rl := hid_f (ownsRow_below rl.out (hb))
      replace rk := hid_f (ownsRow_below rk.out (hb))
      replace rm := hid_f (ownsRow_below rm.out (hb))
      have hz45 := hid_f hb.size
      clear hb hv1
      have hv1 := hid_f (values_same ak am ck cm T Z5 (by omega) (hid_f (row_at rk.out ik.out HX2)) (hid_f (row_at rm.out im.out HB)))
      go_wp2_with fail
      go_fit hv1.out
      rintro e Z6 ⟨rfl, hb⟩
      replace HB := HB.trans ((hb).mono HB.size)
      replace h0 := block_keep h0 (hb)
      replace hgk := block_keep hgk (hb)
      replace HX2 := HX2.trans ((hb).mono HX2.size)
      replace rl := hid_f (ownsRow_below rl.out (hb))
      replace rk := hid_f (ownsRow_below rk.out (hb))
      replace rm := hid_f (ownsRow_below rm.out (hb))
      have hz56 := hid_f hb.size
      clear hb hv1
      have hkp := hid_f (kept_any _ (.slice (some ⟨gp, 0, none⟩) l.length cp) (.slice a l.length c) l Z6 (hO.out.keep HX2) (hP.out.keep HB) hl)
      go_wp2_with fail
      go_fit hkp.out
      rintro e Z7 ⟨rfl, q9, rfl⟩
      have hb : Below Z6.heap.size Z6 (Z6.drewN q9) := below_drewN (Below.refl _ _) q9
      generalize Z6.drewN q9 = Z7 at hb ⊢
      replace HB := HB.trans ((hb).mono HB.size)
      replace h0 := block_keep h0 (hb)
      replace hgk := block_keep hgk (hb)
      replace HX2 := HX2.trans ((hb).mono HX2.size)
      replace rl := hid_f (ownsRow_below rl.out (hb))
      replace rk := hid_f (ownsRow_below rk.out (hb))
      replace rm := hid_f (ownsRow_below rm.out (hb))
      have hz67 := hid_f hb.size
      clear hb hkp
      have hvx := hid_f (equal_law t kg xg sg ang lng cng aig lig cig k x s an ln cn ai li ci Z7 (VRep.keep HX2 _ _ hvg.out) (VRep.keep HB _ _ hV.out))
      obtain ⟨y0, y1, y2, y3, y4, -⟩ := row_cells hgk
      obtain ⟨z0, z1, z2, z3, z4, -⟩ := row_cells h0
      go_wp2_with fail
      clear y0 y1 y2 y3 y4
      clear z0 z1 z2 z3 z4
      go_fit hvx.out
      rintro e Z8 ⟨rfl, hb⟩
      replace HB := HB.trans ((hb).mono HB.size)
      replace h0 := block_keep h0 (hb)
      replace hgk := block_keep hgk (hb)
      replace HX2 := HX2.trans ((hb).mono HX2.size)
      replace rl := hid_f (ownsRow_below rl.out (hb))
      replace rk := hid_f (ownsRow_below rk.out (hb))
      replace rm := hid_f (ownsRow_below rm.out (hb))
      have hz78 := hid_f hb.size
      clear hb hvx
      go_wp2_with fail
      refine (live_true _).mono ?_
      rintro e Z9 ⟨rfl, hb⟩
      replace HB := HB.trans ((hb).mono HB.size)
      replace h0 := block_keep h0 (hb)
      replace hgk := block_keep hgk (hb)
      replace HX2 := HX2.trans ((hb).mono HX2.size)
      replace rl := hid_f (ownsRow_below rl.out (hb))
      replace rk := hid_f (ownsRow_below rk.out (hb))
      replace rm := hid_f (ownsRow_below rm.out (hb))
      have hz89 := hid_f hb.size
      clear hb
      have hZs : Hid (Z.heap.size ≤ Z9.heap.size) := hid_f (by have e0 := hzz.out; have e1 := hz12.out; have e2 := hz23.out; have e3 := hz34.out; have e4 := hz45.out; have e5 := hz56.out; have e6 := hz67.out; have e7 := hz78.out; have e8 := hz89.out; omega)
      have hord : Hid (Z1.heap.size ≤ Z9.heap.size ∧ Z2.heap.size ≤ Z9.heap.size ∧ Z1.heap.size ≤ Z2.heap.size) := hid_f (by have e1 := hz12.out; have e2 := hz23.out; have e3 := hz34.out; have e4 := hz45.out; have e5 := hz56.out; have e6 := hz67.out; have e7 := hz78.out; have e8 := hz89.out; omega)
      clear hz12 hz23 hz34 hz45 hz56 hz67 hz78 hz89
      go_wp2_with fail
      go_loopw [14] (fun i wr => ∃ (q : Nat) (xs : List Value), q ≤ T.length ∧ i = .int .i64 q ∧ Hid (Z9.grownBy wr (Value.slice al T.length cl).ownBlock) ∧ Hid (wr.ownsRow Z.heap.size 25 5 (.slice al T.length cl) T.length xs)) (fun i _ => T.length - (intOf i).toNat)
      case atStart => exact ⟨0, _, Nat.zero_le _, rfl, hid_f (World.grownBy.refl _ _), rl⟩
      case round =>
        obtain ⟨q, xs, hq, rfl, hgr, how⟩ := hrel
        by_cases hlt : q < T.length
        · have hd : decide ((q : Int) < (T.length : Int)) = true := by simp; omega
          obtain ⟨g, cap, cur, hv, hg0, hh, hcc, hmm, hss, hrr⟩ := (how.out.2).resolve_left (by rintro ⟨_, h⟩; omega)
          cases hv
          have hh' := fun o => (Below.heap_alloc wr o g (Array.getElem?_eq_some_iff.1 hh).1).trans hh
          have hcj : ∀ o j, j < 5 → (wr.alloc o).cell? ⟨g, q * 5 + j, none⟩ = some (cur.getD (q * 5 + j) (.bool false)) := fun o j hj => by
            unfold World.cell?
            rw [hh' o]
            show cur[q * 5 + j]? = _
            rw [Array.getD_eq_getD_getElem?, Array.getElem?_eq_getElem (show q * 5 + j < cur.size by omega)]
            rfl
          have hfj : ∀ o j, (wr.alloc o).frozen? ⟨g, q * 5 + j, none⟩ = false := fun o j => by simp [World.frozen?, hh' o]
          have c0 := fun o => hcj o 0 (by omega); have c1 := fun o => hcj o 1 (by omega); have c2 := fun o => hcj o 2 (by omega); have c3 := fun o => hcj o 3 (by omega); have c4 := fun o => hcj o 4 (by omega)
          have f0 := fun o => hfj o 0; have f1 := fun o => hfj o 1; have f2 := fun o => hfj o 2; have f3 := fun o => hfj o 3; have f4 := fun o => hfj o 4
          simp only [Nat.add_zero] at c0 f0
          clear hcj hfj hh' hh hrr hss
          have i1 : (q : Int) < (T.length : Int) := by omega
          have i2 : (0 : Int) ≤ (q : Int) := by omega
          go_wp2_with (go_at_call 18; refine (number_lit _ _).mono ?_; rintro e w' ⟨rfl, rfl⟩)
          go_roundw
          case rel =>
            obtain ⟨ys, hys⟩ := own_set5 (how.out.alloc (.cells #[.int .i64 3, .int .i64 99, .string ⟨#[]⟩, .slice none 0 0, .slice none 0 0] 25)) (q * 5) (.int .i64 3) (.int .i64 99) (.string ⟨#[]⟩) (.slice none 0 0) (.slice none 0 0)
            exact ⟨q + 1, ys, by omega, by simp, hid_f (grown_set5 (grown_alloc hgr.out (.cells #[.int .i64 3, .int .i64 99, .string ⟨#[]⟩, .slice none 0 0, .slice none 0 0] 25)) rfl (q * 5) (.int .i64 3) (.int .i64 99) (.string ⟨#[]⟩) (.slice none 0 0) (.slice none 0 0)), hid_f hys⟩
          case measure => simp [intOf]; omega
        · have hd : decide ((q : Int) < (T.length : Int)) = false := by simp; omega
          go_wp2_with fail
          go_loopw [11, 15] (fun f i wr => ∃ (p m : Nat) (ys : List Value), p ≤ 8 ∧ i = .int .i64 p ∧ m ≤ 5000 + p ∧ Hid (Z9.grownBy wr (Value.slice al T.length cl).ownBlock) ∧ Hid (wr.ownsRow Z.heap.size 25 5 f m ys) ∧ Hid (∀ g, f.ownBlock = some g → (Value.slice al T.length cl).ownBlock = some g ∨ Z9.heap.size ≤ g)) (fun _ i _ => 8 - (intOf i).toNat)
          case atStart => exact ⟨0, T.length, xs, by omega, rfl, by omega, hgr, how, hid_f (fun g h => .inl h)⟩
          case round =>
            clear hgr how
            obtain ⟨p, m, ys, hp, rfl, hm, hgr, how, hwh⟩ := hrel
            obtain ⟨af, cf, rfl⟩ := ownsRow_slice how.out
            have hZw : Hid (Z.heap.size ≤ wr.heap.size) := hid_f (by have h1 := hgr.out.size; have h2 := hZs.out; omega)
            by_cases hlt2 : p < 8
            · have hd2 : decide ((p : Int) < 8) = true := by simp; omega
              go_wp2_with (first | (go_at_call 18; refine (number_lit _ _).mono ?_; rintro e w' ⟨rfl, rfl⟩) | (at_builtin; refine wpList_append_lies _ rfl _ _ 23 rfl Z.heap.size 25 i5 _ 5 80 Try.underlying23 hi5 hz0 hz1 hz2 rfl (by decide) _ m ys rfl ((how.out.alloc _).alloc _) _ 1 1 [.int .i64 3, .int .i64 98, .string ⟨#[]⟩, .slice none 0 0, .slice none 0 0] rfl rfl (World.news_of_block (new2 wr _ _)) (five_one _ _ _ _ _ _ _ _ _) (by decide) (by unfold maxLen; omega) (by omega) (by simp only [World.size_alloc]; have := hZw.out; omega) _ rfl ?_; intro g cap w4 hown4 hgrow4 hat4 hlt4))
              replace hgrow4 : ((wr.alloc (.cells #[.int .i64 3, .int .i64 98, .string ⟨#[]⟩, .slice none 0 0, .slice none 0 0] 25)).alloc (.cells #[.int .i64 3, .int .i64 98, .string ⟨#[]⟩, .slice none 0 0, .slice none 0 0] 25)).grownBy w4 (Value.slice af m cf).ownBlock := hgrow4
              go_roundw
              case rel =>
                refine ⟨p + 1, m + 1, _, by omega, by simp, by omega, hid_f (grown_then (grown_alloc (grown_alloc hgr.out _) _) hgrow4 hwh.out), hid_f hown4, hid_f (fun g' hg' => ?_)⟩
                cases hg'
                rcases hat4 with h | h
                · exact hwh.out _ h
                · exact .inr (by rw [h]; simp only [World.size_alloc]; have := hgr.out.size; omega)
              case measure => simp [intOf]; omega
            · have hd2 : decide ((p : Int) < 8) = false := by simp; omega
              have hgb := hgr.out
              have HXf : Below X6.heap.size X6 wr := ⟨hgb.os.trans HX2.os, hgb.tape.trans HX2.tape, hgb.output.trans HX2.output, Nat.le_trans HX2.size hgb.size, fun k hk => (hgb.block k (by have := HX2.size; omega) (fun e => by have := (hsep.out k e.symm).1; omega)).trans (HX2.block k hk)⟩
              have hwX : Hid (w.heap.size ≤ X6.heap.size) := hXw
              have HBf : Below w.heap.size w wr := ⟨hgb.os.trans HB.os, hgb.tape.trans HB.tape, hgb.output.trans HB.output, Nat.le_trans HB.size hgb.size, fun k hk => (hgb.block k (by have := HB.size; omega) (fun e => by have h1 := (hsep.out k e.symm).1; have h2 := hwX.out; omega)).trans (HB.block k hk)⟩
              have rkf := hid_f (ownsRow_keep rk.out (fun g hg => hgb.block g (ownsRow_ge rk.out hg).2 (fun e => by have h1 := (ownsRow_ge rk.out hg).1; have h2 := (hsep.out g e.symm).2; omega)))
              have rmf := hid_f (ownsRow_keep rm.out (fun g hg => hgb.block g (ownsRow_ge rm.out hg).2 (fun e => by have h1 := (ownsRow_ge rm.out hg).1; have h2 := (hsep.out g e.symm).2; have h3 := hord.out; omega)))
              have h0f := (hgb.block w.heap.size (Array.getElem?_eq_some_iff.1 h0).1 (fun e => by have h1 := (hsep.out _ e.symm).1; have h2 := hBX.out; omega)).trans h0
              have hgkf := (hgb.block bg (Array.getElem?_eq_some_iff.1 hgk).1 (fun e => by have h1 := (hsep.out _ e.symm).1; have h2 := hGX.out; omega)).trans hgk
              clear hgb HX2 HB h0 hgk rl rk rm how hgr hwh
              have hv1 := hid_f (values_same ak am ck cm T wr (by omega) (hid_f (row_at rkf.out ik.out HXf)) (hid_f (row_at rmf.out im.out HBf)))
              go_wp2_with fail
              go_fit hv1.out
              rintro e Q1 ⟨rfl, hb⟩
              have HB1 := HBf.trans (hb.mono HBf.size)
              have h01 := block_keep h0f hb
              have hg1 := block_keep hgkf hb
              have hvx := hid_f (equal_law t kg xg sg ang lng cng aig lig cig k x s an ln cn ai li ci Q1 (VRep.keep (HXf.trans (hb.mono HXf.size)) _ _ hvg.out) (VRep.keep HB1 _ _ hV.out))
              clear hb hv1 h0f hgkf HXf HBf
              obtain ⟨y0, y1, y2, y3, y4, -⟩ := row_cells hg1
              obtain ⟨z0, z1, z2, z3, z4, -⟩ := row_cells h01
              go_wp2_with fail
              go_fit hvx.out
              rintro e Q2 ⟨rfl, hb⟩
              go_wp2_with fail
              go_ret
              exact ⟨rfl, HB1.trans (hb.mono HB1.size)⟩
  · go_wp2_with fail
    refine (live_true _).mono ?_
    rintro e w9 ⟨rfl, hb9⟩
    go_wp2_with fail
    go_ret
    exact ⟨rfl, HB.trans (hb9.mono HB.size)⟩
end Go.Proofs.Ytelmdbfddmpaaaa
