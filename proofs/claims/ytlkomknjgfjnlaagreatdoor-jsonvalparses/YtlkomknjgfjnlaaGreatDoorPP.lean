import Derived.Test.YtlkomknjgfjnlaaGreatDoorPO
/-! The document's reader of texts: lists. -/
namespace Go.Proofs.YtlkomknjgfjnlaaGreatDoor.Tree
open Go Go.RowKit

theorem skipTo_at {T : ByteArray} : (f n : Nat) → T.size - n ≤ f → n ≤ T.size → ∀ g, skipTo T g (skipTo T f n) = skipTo T f n
  | 0, n, h, hn, g => by
    have e : skipTo T 0 n = n := rfl
    rw [e]
    cases g with
    | zero => rfl
    | succ g => rw [skipTo, if_neg (fun hc => by omega)]
  | f + 1, n, h, hn, g => by
    by_cases hc : n < T.size ∧ blank (byteAt T n) = true
    · have e : skipTo T (f + 1) n = skipTo T f (n + 1) := by rw [skipTo, if_pos hc]
      rw [e]
      exact skipTo_at f (n + 1) (by omega) hc.1 g
    · have e : skipTo T (f + 1) n = n := by rw [skipTo, if_neg hc]
      rw [e]
      cases g with
      | zero => rfl
      | succ g => rw [skipTo, if_neg hc]
theorem skip_idem (T : ByteArray) (n : Nat) (hn : n ≤ T.size) : skip T (skip T n) = skip T n := by
  unfold skip
  exact skipTo_at _ n (by omega) hn _
theorem ofL_snoc : (l : List J) → (u : J) → ofL (l ++ [u]) = ofL l ++ [ofJ u]
  | [], u => by simp [ofL]
  | j :: js, u => by rw [List.cons_append, ofL, ofL, ofL_snoc js u, List.cons_append]
/-- Values are read as they should. -/
def ValOkJ (val : Nat → Res J) (r : Nat) (T : ByteArray) (d : Int) : Prop := ∀ (q : Nat) W, RT W r T (q : Int) 0 0 → q ≤ T.size → Calls Tryz.prog 14 #[.pointer (some ⟨r, 0, none⟩), .int .i64 d] W (RValPost W r T (val q))
theorem qm_endJ {w wr : World} {r : Nat} {ns : List ByteArray} {its : List J} {u : J} {xs : List Value} {an : Option Addr} {cn : Nat} {gi m cI : Nat} {k : Int} (h : QM w r k (.slice an ns.length cn) (.slice (some ⟨gi, 0, none⟩) (m + 1) cI) (.slice an ns.length cn) (.slice (some ⟨gi, 0, none⟩) (m + 1) cI) ns.length (strs ns) (m + 1) xs (ofL its ++ [ofJ u]) xs wr) (hm : its.length = m) (c0 c1 c2 c3 c4 : Value) :
    Seen (put5 wr w.heap.size c0 c1 c2 c3 c4) (fun j => w.heap.size ≤ j) (.node k 0 ⟨#[]⟩ ns (ofL (its ++ [u]))) (five k 0 ⟨#[]⟩ (.slice an ns.length cn) (.slice (some ⟨gi, 0, none⟩) (m + 1) cI)) := by
  rw [ofL_snoc]
  have e : (ofL its ++ [ofJ u]).length = m + 1 := by rw [List.length_append, ofL_len, hm]; rfl
  rw [← e] at h ⊢
  exact qm_end h c0 c1 c2 c3 c4
set_option maxHeartbeats 8000000 in
set_option maxRecDepth 100000 in
theorem list_code (r : Nat) (T : ByteArray) (n d : Nat) (val : Nat → Res J) (w : World) (hT : T.size ≤ 65536) (h : Hid (RT w r T (n : Int) 0 0)) (hn : n < T.size) (hd : d ≤ 63) (hval : Hid (ValOkJ val r T ((d : Int) + 1))) (hfine : Hid (∀ q, q ≤ T.size → Fine T q (val q))) :
    Calls Tryz.prog 26 #[.pointer (some ⟨r, 0, none⟩), .int .i64 (d : Int)] w (RValPost w r T ((betweenR (itemR val) 93 T [] n).map .list)) := by
  have hrl := h.out.lt
  obtain ⟨R, hR⟩ : ∃ R, Hid ((betweenR (itemR val) 93 T [] n).map J.list = R) := ⟨_, hid_e rfl⟩
  rw [hR.out]
  obtain ⟨i0, hi, hz0, hz1, hz2⟩ := info_parts AV
  have hX0 : Fr (· = r) w ((w.alloc (.cells #[.int .i64 0, .int .i64 0, .string ⟨#[]⟩, .slice none 0 0, .slice none 0 0] 25)).alloc (.cells #[.int .i64 5, .int .i64 0, .string ⟨#[]⟩, .slice none 0 0, .slice none 0 0] 25)) := ((Fr.refl _ w).alloc _).alloc _
  have x1 := new1 w (.cells #[.int .i64 0, .int .i64 0, .string ⟨#[]⟩, .slice none 0 0, .slice none 0 0] 25) (.cells #[.int .i64 5, .int .i64 0, .string ⟨#[]⟩, .slice none 0 0, .slice none 0 0] 25)
  have x2 := new2 w (.cells #[.int .i64 0, .int .i64 0, .string ⟨#[]⟩, .slice none 0 0, .slice none 0 0] 25) (.cells #[.int .i64 5, .int .i64 0, .string ⟨#[]⟩, .slice none 0 0, .slice none 0 0] 25)
  have hR0 := RT.keep (S := fun _ => False) h.out (((Fr.refl _ w).alloc (.cells #[.int .i64 0, .int .i64 0, .string ⟨#[]⟩, .slice none 0 0, .slice none 0 0] 25)).alloc (.cells #[.int .i64 5, .int .i64 0, .string ⟨#[]⟩, .slice none 0 0, .slice none 0 0] 25)) (fun e => e)
  go_enter Tryz.func26, Tryz.ntmps26
  go_upto_region 2 with fail
  generalize ((w.alloc (.cells #[.int .i64 0, .int .i64 0, .string ⟨#[]⟩, .slice none 0 0, .slice none 0 0] 25)).alloc (.cells #[.int .i64 5, .int .i64 0, .string ⟨#[]⟩, .slice none 0 0, .slice none 0 0] 25)) = X1 at hX0 x1 x2 hR0 ⊢
  have hM0 : Hid (QM w r 5 (.slice none 0 0) (.slice none 0 0) (.slice none 0 0) (.slice none 0 0) 0 (strs []) 0 [] [] [] X1) := ⟨hrl, hX0, x1, x2, World.ownsRow_nil _ _ _ _, World.ownsRow_nil _ _ _ _, (fun j e => by cases e), (fun W' _ => by unfold ItemsRep; rfl)⟩
  clear hX0 x1 x2 h
  have hem := hid_e (empty_code r T 93 n X1 hT (hid_e hR0) hn)
  rw [show ((93 : UInt8).toNat : Int) = 93 from rfl] at hem
  have hs9 := skip_bd T (n + 1) hn
  obtain ⟨s, hs⟩ : ∃ s, Hid (skip T (n + 1) = s) := ⟨_, hid_e rfl⟩
  rw [hs.out] at hs9
  obtain ⟨hs1, hs2⟩ := hs9
  go_wp2_with fail
  go_fit hem.out
  clear hem
  rintro e1 w1 ⟨rfl, hS1, hF1⟩
  have hM1 := hid_e (hM0.out.next hF1)
  clear hM0 hF1 hR0
  by_cases hlt : s < T.size
  rotate_left
  · have hB : emptyB T 93 n = true := by unfold emptyB; rw [hs.out, decide_eq_false hlt]; rfl
    have hE : emptyR T 93 n = .bad 3 T.size := by unfold emptyR; rw [hs.out, if_neg hlt]
    have hRe : Hid (R = .bad 3 T.size) := by rw [Hid, ← hR.out]; unfold betweenR; rw [hs.out, if_neg hlt]; rfl
    rw [hB]
    rw [hE] at hS1
    replace hS1 := hid_e hS1
    clear hB hE
    obtain ⟨z0, z1, z2, z3, z4, -⟩ := row_cells hM1.out.box
    obtain ⟨v0, v1, v2, v3, v4, vf⟩ := row_cells hM1.out.res
    have vf0 := vf 0; have vf1 := vf 1; have vf2 := vf 2; have vf3 := vf 3; have vf4 := vf 4
    clear vf
    go_wp2_with fail
    have hr5 := put5_cells hM1.out.res (.int .i64 5) (.int .i64 0) (.string ⟨#[]⟩) (.slice none 0 0) (.slice none 0 0)
    have r0 := hr5 0; have r1 := hr5 1; have r2 := hr5 2; have r3 := hr5 3; have r4 := hr5 4
    clear hr5
    refine bodyPost_ret (v := .agg #[.int .i64 5, .int .i64 0, .string ⟨#[]⟩, .slice none 0 0, .slice none 0 0]) (by simp [results, Tryz.results26, go_sem, r0, r1, r2, r3, r4]) rfl ?_
    rw [hRe.out]
    exact RValPost.mk (w := w) hrl (fun j q e => by cases e) hS1.out hM1.out.fr
  by_cases hb : byteAt T s = 93
  · have hB : emptyB T 93 n = true := by unfold emptyB; rw [hs.out, hb]; simp
    have hE : emptyR T 93 n = .ok () (s + 1) := by unfold emptyR; rw [hs.out, if_pos hlt, if_pos hb]
    have hRe : Hid (R = .ok (.list []) (s + 1)) := by rw [Hid, ← hR.out]; unfold betweenR; rw [hs.out, if_pos hlt, if_pos hb]; rfl
    rw [hB]
    rw [hE] at hS1
    replace hS1 : Hid (RT w1 r T ((s + 1 : Nat) : Int) 0 0) := hS1
    have hEn := fun c0 c1 c2 c3 c4 => hid_e (qm_end (ns := []) (its := []) hM1.out c0 c1 c2 c3 c4)
    clear hB hE hb
    obtain ⟨z0, z1, z2, z3, z4, -⟩ := row_cells hM1.out.box
    obtain ⟨v0, v1, v2, v3, v4, vf⟩ := row_cells hM1.out.res
    have vf0 := vf 0; have vf1 := vf 1; have vf2 := vf 2; have vf3 := vf 3; have vf4 := vf 4
    clear vf
    go_wp2_with fail
    have hr5 := put5_cells hM1.out.res (.int .i64 5) (.int .i64 0) (.string ⟨#[]⟩) (.slice none 0 0) (.slice none 0 0)
    have r0 := hr5 0; have r1 := hr5 1; have r2 := hr5 2; have r3 := hr5 3; have r4 := hr5 4
    clear hr5
    refine bodyPost_ret (v := .agg #[.int .i64 5, .int .i64 0, .string ⟨#[]⟩, .slice none 0 0, .slice none 0 0]) (by simp [results, Tryz.results26, go_sem, r0, r1, r2, r3, r4]) rfl ?_
    rw [hRe.out]
    exact RValPost.mk (w := w) hrl (fun j q e => by cases e; exact (hEn _ _ _ _ _).out) ⟨s + 1, Nat.le_refl _, hlt, rfl, hS1.out⟩ hM1.out.fr
  have hB : emptyB T 93 n = false := by unfold emptyB; rw [hs.out, decide_eq_true hlt]; simpa using hb
  have hE : emptyR T 93 n = .ok () s := by unfold emptyR; rw [hs.out, if_pos hlt, if_neg hb]
  rw [hB]
  rw [hE] at hS1
  replace hS1 : Hid (RT w1 r T (s : Int) 0 0) := hS1
  clear hB hE
  have hd1 : (d : Int) ≤ 100 := by omega
  have hwd : IntKind.i64.wrap ((d : Int) + 1) = (d : Int) + 1 := by have := Lib.wrap_i64_small (d + 1) (by omega); rw [show (((d + 1 : Nat) : Int)) = (d : Int) + 1 by omega] at this; exact this
  have hK0 : Hid ((loopR (itemR val) 93 T (T.size - s + 1) [] s).map J.list = R) := by rw [Hid, ← hR.out]; unfold betweenR; rw [hs.out, if_pos hlt, if_neg hb]
  clear hb hR
  go_wp2_with fail
  go_loopg [] (T.size - s + 1) (fun gk wr => ∃ (q : Nat) (its : List J) (m : Nat) (xI : List Value) (ao : Option Addr) (ci : Nat), q ≤ T.size ∧ T.size - q < gk ∧ Hid (its.length = m) ∧ m ≤ q ∧ Hid (RT wr r T (q : Int) 0 0) ∧ Hid (QM w r 5 (.slice none 0 0) (.slice ao m ci) (.slice none 0 0) (.slice ao m ci) 0 (strs []) m xI (ofL its) xI wr) ∧ Hid ((loopR (itemR val) 93 T gk its q).map J.list = R))
  case atStart => exact ⟨s, [], 0, [], none, 0, hs2, by omega, hid_e rfl, Nat.zero_le _, hS1, hM1, hK0⟩
  case round =>
    clear hM1 hS1 hK0
    obtain ⟨q, its, m, xI, ao, ci, hq, hgk, him, hmq, hA, hM, hK⟩ := hrel
    obtain ⟨g', rfl⟩ : ∃ g', gk = g' + 1 := ⟨gk - 1, by omega⟩
    have hKv : Hid ((match val q with | .bad e p => (.bad e p : Res J) | .ok u q3 => (if skip T q3 < T.size then if byteAt T (skip T q3) = 93 then (.ok (its ++ [u]) (skip T q3 + 1) : Res (List J)) else if byteAt T (skip T q3) = 44 then loopR (itemR val) 93 T g' (its ++ [u]) (skip T (skip T q3 + 1)) else .bad 10 (skip T q3) else .bad 3 T.size).map J.list) = R) := by
      rw [Hid, ← hK.out, loopR]
      unfold itemR
      cases val q <;> rfl
    clear hK
    go_upto_region 4 with fail
    replace hM := hid_e hM.out.drew
    have hbx := hM.out.box
    have hRX := hid_e (RT.keep (S := fun _ => False) hA.out ((Fr.refl _ wr).drew) (fun e => e))
    have hcall := hid_e (hval.out q wr.drew hRX.out hq)
    generalize hX : wr.drew = X at hM hbx hRX hcall
    refine wp_region_noPanic ?_
    refine Until.wp_region_U (fun _ => True) (fun W => W.heap[w.heap.size + 1]? = some (.cells #[.int .i64 5, .int .i64 0, .string ⟨#[]⟩, .slice none 0 0, .slice ao m ci] 25 (0, 0))) 9 (by kernel_rfl) ?_
    rw [hX]
    clear hX
    refine Until.wpU_pure (i := 0) (oi := { dst := some 10, op := Op.fieldAddr 25 (Operand.tmp 5) 4, type := 0, pos := "ref.go:422", after := #[], guard := none }) (v := .pointer (some ⟨w.heap.size + 1, 4, none⟩)) rfl (by kernel_rfl) (by kernel_rfl) (by kernel_rfl) (by kernel_rfl) (by kernel_rfl) (fun _ _ _ h => h) (trivial) (fun _ => hbx) (by rfl) (by intro w'; go_simp) ?_
    try simp only [Act.put, List.setIfInBounds_toArray, List.set_cons_zero, List.set_cons_succ]
    refine Until.wpU_load1 (i := 1) (oi := { dst := some 11, op := Op.load 23 (Operand.tmp 10), type := 23, pos := "ref.go:422", after := #[{ on := 0, ground := Ground.data }], guard := none }) (v := .slice ao m ci) rfl (by kernel_rfl) (by kernel_rfl) (by kernel_rfl) (by kernel_rfl) (by kernel_rfl) (by kernel_rfl) (fun _ _ _ h => h) (trivial) (hbx) (by rfl) (by intro w' hw'; obtain ⟨t0, t1, t2, t3, t4, -⟩ := row_cells hw'; go_simp) ?_
    try simp only [Act.put, List.setIfInBounds_toArray, List.set_cons_zero, List.set_cons_succ]
    refine Until.wpU_pure (i := 2) (oi := { dst := some 12, op := Op.move (Operand.tmp 0), type := 43, pos := "ref.go:422", after := #[], guard := none }) (v := .pointer (some ⟨r, 0, none⟩)) rfl (by kernel_rfl) (by kernel_rfl) (by kernel_rfl) (by kernel_rfl) (by kernel_rfl) (fun _ _ _ h => h) (trivial) (fun _ => hbx) (by rfl) (by intro w'; go_simp) ?_
    try simp only [Act.put, List.setIfInBounds_toArray, List.set_cons_zero, List.set_cons_succ]
    refine Until.wpU_pure (i := 3) (oi := { dst := some 13, op := Op.move (Operand.tmp 1), type := 3, pos := "ref.go:422", after := #[], guard := none }) (v := .int .i64 (d : Int)) rfl (by kernel_rfl) (by kernel_rfl) (by kernel_rfl) (by kernel_rfl) (by kernel_rfl) (fun _ _ _ h => h) (trivial) (fun _ => hbx) (by rfl) (by intro w'; go_simp) ?_
    try simp only [Act.put, List.setIfInBounds_toArray, List.set_cons_zero, List.set_cons_succ]
    refine Until.wpU_pure (i := 4) (oi := { dst := some 14, op := Op.binOp BinOp.add 3 (Operand.tmp 13) (Operand.const (Value.int IntKind.i64 1)) 3, type := 3, pos := "ref.go:422", after := #[{ on := 3, ground := Ground.data }], guard := none }) (v := .int .i64 ((d : Int) + 1)) rfl (by kernel_rfl) (by kernel_rfl) (by kernel_rfl) (by kernel_rfl) (by kernel_rfl) (fun _ _ _ h => h) (trivial) (fun _ => hbx) (by rfl) (by intro w'; go_simp) ?_
    try simp only [Act.put, List.setIfInBounds_toArray, List.set_cons_zero, List.set_cons_succ]
    refine Until.wpU_ready (rs := [5]) (by kernel_rfl) (by simp) ?_
    refine (Until.AllU.cons (o := { dst := some 15, op := Op.call { callee := Callee.value (Operand.func 14), args := #[Operand.tmp 12, Operand.tmp 14], argTypes := #[43, 3] }, type := 25, pos := "ref.go:422", after := #[{ on := 2, ground := Ground.data }, { on := 4, ground := Ground.data }], guard := none }) rfl (fun K hK => ?_) Until.AllU.nil)
    go_simp
    refine hcall.out.mono ?_
    rintro e3 w3 ⟨k2, x2, s2, an2, ln2, cn2, ai2, li2, ci2, rfl, hsn, hS3, hF3⟩
    have hM3 := hid_e (hM.out.next hF3)
    have hM3r : Hid (∀ u q1, val q = .ok u q1 → QM w r 5 (.slice none 0 0) (.slice ao m ci) (.slice none 0 0) (.slice ao m ci) 0 (strs []) m xI (ofL its ++ [ofJ u]) (xI ++ five k2 x2 s2 (.slice an2 ln2 cn2) (.slice ai2 li2 ci2)) w3) := fun u q1 e => hM.out.read hF3 (hsn u q1 e) rfl
    clear hsn
    have b3 := hM3.out.box
    refine hK.out _ _ trivial (fun _ => b3) ?_
    clear hK K hcall hbx hRX
    try simp only [Act.put, List.setIfInBounds_toArray, List.set_cons_zero, List.set_cons_succ]
    refine Until.wpU_ready (rs := [6]) (by kernel_rfl) (by simp) ?_
    refine (Until.AllU.cons (o := { dst := some 16, op := Op.buildSlice 23 1 #[(0, Operand.tmp 15)], type := 23, pos := "ref.go:422", after := #[{ on := 5, ground := Ground.data }], guard := none }) rfl (fun K hK => ?_) Until.AllU.nil)
    go_simp
    have hM4 := hid_e (hM3.out.alloc (.cells #[.int .i64 k2, .int .i64 x2, .string s2, .slice an2 ln2 cn2, .slice ai2 li2 ci2] 25))
    have hM4r : Hid (∀ u q1, val q = .ok u q1 → QM w r 5 (.slice none 0 0) (.slice ao m ci) (.slice none 0 0) (.slice ao m ci) 0 (strs []) m xI (ofL its ++ [ofJ u]) (xI ++ five k2 x2 s2 (.slice an2 ln2 cn2) (.slice ai2 li2 ci2)) (w3.alloc (.cells #[.int .i64 k2, .int .i64 x2, .string s2, .slice an2 ln2 cn2, .slice ai2 li2 ci2] 25))) := fun u q1 e => (hM3r.out u q1 e).alloc _
    have nb := heap_alloc_new w3 (.cells #[.int .i64 k2, .int .i64 x2, .string s2, .slice an2 ln2 cn2, .slice ai2 li2 ci2] 25)
    have hS4 : Hid (VSt (w3.alloc (.cells #[.int .i64 k2, .int .i64 x2, .string s2, .slice an2 ln2 cn2, .slice ai2 li2 ci2] 25)) r T (val q)) := hS3.keep ((Fr.refl _ w3).alloc _)
    have b4 := hM4.out.box
    refine hK.out _ _ trivial (fun _ => b4) ?_
    clear hK K
    try simp only [Act.put, List.setIfInBounds_toArray, List.set_cons_zero, List.set_cons_succ]
    generalize w3.alloc (.cells #[.int .i64 k2, .int .i64 x2, .string s2, .slice an2 ln2 cn2, .slice ai2 li2 ci2] 25) = Y4 at hM4 hM4r nb b4 hS4 ⊢
    replace nb := hid_e nb
    refine Until.wpU_ready (rs := [7]) (by kernel_rfl) (by simp) ?_
    refine (Until.AllU.cons (o := { dst := some 17, op := Op.call { callee := Callee.builtin Builtin.append, args := #[Operand.tmp 11, Operand.tmp 16], argTypes := #[23, 23] }, type := 23, pos := "ref.go:422", after := #[{ on := 1, ground := Ground.data }, { on := 6, ground := Ground.data }, { on := 5, ground := Ground.chain }], guard := none }) rfl (fun K hK => ?_) Until.AllU.nil)
    refine step_append_lies _ (by rfl) _ _ 23 (by rfl) (w.heap.size + 2) 25 i0 _ 5 80 Tryz.underlying23 hi hz0 hz1 hz2 (by rfl) (by omega) _ m xI (by rfl) hM4.out.items _ 1 1 [.int .i64 k2, .int .i64 x2, .string s2, .slice an2 ln2 cn2, .slice ai2 li2 ci2] (by rfl) (by rfl) (World.news_of_block nb.out) (five_one _ _ _ _ _ _ _ _ _) (by omega) (by unfold maxLen; omega) (by omega) hM4.out.size _ rfl ?_
    intro gi cI Y5 how hgr hat hlt
    have hM5 := hid_e (hM4.out.growI hgr hat how)
    have hM5r : Hid (∀ u q1, val q = .ok u q1 → QM w r 5 (.slice none 0 0) (.slice ao m ci) (.slice none 0 0) (.slice (some ⟨gi, 0, none⟩) (m + 1) cI) 0 (strs []) (m + 1) (xI ++ five k2 x2 s2 (.slice an2 ln2 cn2) (.slice ai2 li2 ci2)) (ofL its ++ [ofJ u]) (xI ++ five k2 x2 s2 (.slice an2 ln2 cn2) (.slice ai2 li2 ci2)) Y5) := fun u q1 e => (hM4r.out u q1 e).growI hgr hat how
    have hne : ∀ g, (Value.slice ao m ci).ownBlock = some g → w.heap.size ≤ g := fun g e => by have := (ownsRow_ge hM4.out.items e).1; omega
    have hFr5 : Fr (fun j => w.heap.size ≤ j) Y4 Y5 := (Fr.refl _ Y4).grown hgr (fun g hg => .inl (hne g hg))
    have hS5 : Hid (VSt Y5 r T (val q)) := hS4.out.keepF hFr5 (by omega)
    have b5 := hM5.out.box
    clear how hgr hat hlt hne hFr5
    refine hK.out _ _ trivial (fun _ => b5) ?_
    clear hK K
    try simp only [Act.put, List.setIfInBounds_toArray, List.set_cons_zero, List.set_cons_succ]
    refine Until.wpU_pure (i := 8) (oi := { dst := some 18, op := Op.fieldAddr 25 (Operand.tmp 5) 4, type := 0, pos := "ref.go:422", after := #[{ on := 0, ground := Ground.phase }, { on := 1, ground := Ground.phase }, { on := 2, ground := Ground.phase }, { on := 3, ground := Ground.phase }, { on := 4, ground := Ground.phase }, { on := 5, ground := Ground.phase }, { on := 6, ground := Ground.phase }, { on := 7, ground := Ground.phase }], guard := none }) (v := .pointer (some ⟨w.heap.size + 1, 4, none⟩)) rfl (by kernel_rfl) (by kernel_rfl) (by kernel_rfl) (by kernel_rfl) (by kernel_rfl) (fun _ _ _ h => h) (trivial) (fun _ => b5) (by rfl) (by intro w'; go_simp) ?_
    try simp only [Act.put, List.setIfInBounds_toArray, List.set_cons_zero, List.set_cons_succ]
    obtain ⟨-, -, -, -, z4, zf⟩ := row_cells b5
    have zf4 := zf 4
    clear zf
    refine Until.wpU_ready (rs := [9]) (by kernel_rfl) (by simp) ?_
    refine (Until.AllU.cons (o := { dst := none, op := Op.store 23 (Operand.tmp 18) (Operand.tmp 17), type := 0, pos := "ref.go:422", after := #[{ on := 8, ground := Ground.data }, { on := 7, ground := Ground.data }, { on := 7, ground := Ground.chain }, { on := 0, ground := Ground.phase }, { on := 1, ground := Ground.phase }, { on := 2, ground := Ground.phase }, { on := 3, ground := Ground.phase }, { on := 4, ground := Ground.phase }, { on := 5, ground := Ground.phase }, { on := 6, ground := Ground.phase }, { on := 7, ground := Ground.phase }], guard := none }) rfl (fun K hK => ?_) Until.AllU.nil)
    go_simp
    have hM6 := hid_e (hM5.out.setI (.slice (some ⟨gi, 0, none⟩) (m + 1) cI)).blind
    have hFr6 : Fr (fun j => w.heap.size ≤ j) Y5 (Y5.setCell ⟨w.heap.size + 1, 4, none⟩ (.slice (some ⟨gi, 0, none⟩) (m + 1) cI)) := (Fr.refl _ Y5).set _ _ (.inl (by show w.heap.size ≤ w.heap.size + 1; omega))
    have hM6r : Hid (∀ u q1, val q = .ok u q1 → QM w r 5 (.slice none 0 0) (.slice (some ⟨gi, 0, none⟩) (m + 1) cI) (.slice none 0 0) (.slice (some ⟨gi, 0, none⟩) (m + 1) cI) 0 (strs []) (m + 1) (xI ++ five k2 x2 s2 (.slice an2 ln2 cn2) (.slice ai2 li2 ci2)) (ofL its ++ [ofJ u]) (xI ++ five k2 x2 s2 (.slice an2 ln2 cn2) (.slice ai2 li2 ci2)) (Y5.setCell ⟨w.heap.size + 1, 4, none⟩ (.slice (some ⟨gi, 0, none⟩) (m + 1) cI))) := fun u q1 e => (hM5r.out u q1 e).setI _
    have hS6 : Hid (VSt (Y5.setCell ⟨w.heap.size + 1, 4, none⟩ (.slice (some ⟨gi, 0, none⟩) (m + 1) cI)) r T (val q)) := hS5.out.keepF hFr6 (by omega)
    refine hK.out _ _ trivial (fun h => absurd h (by decide)) ?_
    clear hK K z4 zf4 b3 b4 b5 hFr6
    try simp only [Act.put, List.setIfInBounds_toArray, List.set_cons_zero, List.set_cons_succ]
    refine Until.wpU_done (by kernel_rfl) ?_ _
    refine NoPanic.normal ?_
    generalize Y5.setCell ⟨w.heap.size + 1, 4, none⟩ (.slice (some ⟨gi, 0, none⟩) (m + 1) cI) = Y6 at hM6 hM6r hS6 ⊢
    clear hM3 hM4 hM5 hM3r hM4r hM5r hS3 hS4 hS5 hF3
    cases hV : val q with
    | bad e p =>
      rw [hV] at hS6
      obtain ⟨he, zd, hRd⟩ := hS6.out
      have hRe : Hid (R = .bad e p) := by rw [Hid, ← hKv.out, hV] <;> rfl
      have hco := hid_e (comma_dead r T 93 zd (p : Int) (e : Int) Y6 hRd (by omega))
      rw [show ((93 : UInt8).toNat : Int) = 93 from rfl] at hco
      clear hM6r hKv hS6
      go_wp2_with fail
      go_fit hco.out
      clear hco
      rintro e5 w5 ⟨rfl, hS7, hF7⟩
      have hM7 := hid_e (hM6.out.next hF7)
      have hVS : Hid (VSt w5 r T (.bad e p : Res J)) := ⟨he, _, hS7⟩
      clear hS7 hF7 hM6 hRd
      obtain ⟨z0, z1, z2, z3, z4, -⟩ := row_cells hM7.out.box
      obtain ⟨v0, v1, v2, v3, v4, vf⟩ := row_cells hM7.out.res
      have vf0 := vf 0; have vf1 := vf 1; have vf2 := vf 2; have vf3 := vf 3; have vf4 := vf 4
      clear vf
      go_wp2_with fail
      have hr5 := put5_cells hM7.out.res (.int .i64 5) (.int .i64 0) (.string ⟨#[]⟩) (.slice none 0 0) (.slice (some ⟨gi, 0, none⟩) (m + 1) cI)
      have r0 := hr5 0; have r1 := hr5 1; have r2 := hr5 2; have r3 := hr5 3; have r4 := hr5 4
      clear hr5
      refine bodyPost_ret (v := .agg #[.int .i64 5, .int .i64 0, .string ⟨#[]⟩, .slice none 0 0, .slice (some ⟨gi, 0, none⟩) (m + 1) cI]) (by simp [results, Tryz.results26, go_sem, r0, r1, r2, r3, r4]) rfl ?_
      rw [hRe.out]
      exact RValPost.mk (w := w) hrl (fun j q e => by cases e) hVS.out hM7.out.fr
    | ok u q3 =>
      rw [hV] at hS6
      obtain ⟨m3, hm1, hm2, hm3, hR6⟩ := hS6.out
      have hfu := hid_e (hfine.out q hq)
      rw [hV] at hfu
      have hq31 := hfu.out.1
      have hq32 := hfu.out.2
      have hM7 := hid_e (hM6r.out u q3 hV)
      have hKw : Hid ((if skip T q3 < T.size then if byteAt T (skip T q3) = 93 then (.ok (its ++ [u]) (skip T q3 + 1) : Res (List J)) else if byteAt T (skip T q3) = 44 then loopR (itemR val) 93 T g' (its ++ [u]) (skip T (skip T q3 + 1)) else .bad 10 (skip T q3) else .bad 3 T.size).map J.list = R) := by rw [Hid, ← hKv.out, hV] <;> rfl
      have hco := hid_e (comma_code r T 93 m3 Y6 hT (hid_e hR6) hm2)
      rw [show ((93 : UInt8).toNat : Int) = 93 from rfl] at hco
      have hs5 := skip_bd T q3 hq32
      obtain ⟨s3, hs3⟩ : ∃ s, Hid (skip T q3 = s) := ⟨_, hid_e rfl⟩
      rw [hs3.out] at hs5 hKw hm3
      obtain ⟨hs51, hs52⟩ := hs5
      replace hm3 := hid_e hm3
      clear hM6r hKv hS6 hfu hV hM6 hR6
      go_wp2_with fail
      go_fit hco.out
      clear hco
      rintro e5 w5 ⟨rfl, hS7, hF7⟩
      have hM8 := hid_e (hM7.out.next hF7)
      clear hM7 hF7
      by_cases hlt3 : s3 < T.size
      rotate_left
      · have hB : commaB T m3 = false := by unfold commaB; rw [hm3.out, decide_eq_false hlt3]; rfl
        have hE : commaR T 93 m3 = .bad 3 T.size := by unfold commaR; rw [hm3.out, if_neg hlt3]
        have hRe : Hid (R = .bad 3 T.size) := by rw [Hid, ← hKw.out, if_neg hlt3]; rfl
        rw [hB]
        rw [hE] at hS7
        replace hS7 := hid_e hS7
        clear hB hE
        obtain ⟨z0, z1, z2, z3, z4, -⟩ := row_cells hM8.out.box
        obtain ⟨v0, v1, v2, v3, v4, vf⟩ := row_cells hM8.out.res
        have vf0 := vf 0; have vf1 := vf 1; have vf2 := vf 2; have vf3 := vf 3; have vf4 := vf 4
        clear vf
        go_wp2_with fail
        have hr5 := put5_cells hM8.out.res (.int .i64 5) (.int .i64 0) (.string ⟨#[]⟩) (.slice none 0 0) (.slice (some ⟨gi, 0, none⟩) (m + 1) cI)
        have r0 := hr5 0; have r1 := hr5 1; have r2 := hr5 2; have r3 := hr5 3; have r4 := hr5 4
        clear hr5
        refine bodyPost_ret (v := .agg #[.int .i64 5, .int .i64 0, .string ⟨#[]⟩, .slice none 0 0, .slice (some ⟨gi, 0, none⟩) (m + 1) cI]) (by simp [results, Tryz.results26, go_sem, r0, r1, r2, r3, r4]) rfl ?_
        rw [hRe.out]
        exact RValPost.mk (w := w) hrl (fun j q e => by cases e) hS7.out hM8.out.fr
      by_cases hb1 : byteAt T s3 = 93
      · have hB : commaB T m3 = false := by unfold commaB; rw [hm3.out, hb1, decide_eq_true hlt3]; rfl
        have hE : commaR T 93 m3 = .ok () (skip T (s3 + 1)) := by unfold commaR; rw [hm3.out, if_pos hlt3, if_pos (.inr hb1)]
        have hRe : Hid (R = .ok (.list (its ++ [u])) (s3 + 1)) := by rw [Hid, ← hKw.out, if_pos hlt3, if_pos hb1]; rfl
        have hsk := skip_bd T (s3 + 1) hlt3
        have hVS : Hid (VSt w5 r T (.ok (.list (its ++ [u])) (s3 + 1) : Res J)) := ⟨skip T (s3 + 1), hsk.1, hsk.2, skip_idem T (s3 + 1) hlt3, by rw [hE] at hS7; exact hS7⟩
        have hEn := fun c0 c1 c2 c3 c4 => hid_e (qm_endJ hM8.out (ns := []) him.out c0 c1 c2 c3 c4)
        rw [hB]
        clear hB hE hS7 hsk hb1
        obtain ⟨z0, z1, z2, z3, z4, -⟩ := row_cells hM8.out.box
        obtain ⟨v0, v1, v2, v3, v4, vf⟩ := row_cells hM8.out.res
        have vf0 := vf 0; have vf1 := vf 1; have vf2 := vf 2; have vf3 := vf 3; have vf4 := vf 4
        clear vf
        go_wp2_with fail
        have hr5 := put5_cells hM8.out.res (.int .i64 5) (.int .i64 0) (.string ⟨#[]⟩) (.slice none 0 0) (.slice (some ⟨gi, 0, none⟩) (m + 1) cI)
        have r0 := hr5 0; have r1 := hr5 1; have r2 := hr5 2; have r3 := hr5 3; have r4 := hr5 4
        clear hr5
        refine bodyPost_ret (v := .agg #[.int .i64 5, .int .i64 0, .string ⟨#[]⟩, .slice none 0 0, .slice (some ⟨gi, 0, none⟩) (m + 1) cI]) (by simp [results, Tryz.results26, go_sem, r0, r1, r2, r3, r4]) rfl ?_
        rw [hRe.out]
        exact RValPost.mk (w := w) hrl (fun j q e => by cases e; exact (hEn _ _ _ _ _).out) hVS.out hM8.out.fr
      by_cases hb2 : byteAt T s3 = 44
      rotate_left
      · have hB : commaB T m3 = false := by unfold commaB; rw [hm3.out, decide_eq_true hlt3]; simpa using hb2
        have hE : commaR T 93 m3 = .bad 10 s3 := by unfold commaR; rw [hm3.out, if_pos hlt3, if_neg (fun e => e.elim hb2 hb1)]
        have hRe : Hid (R = .bad 10 s3) := by rw [Hid, ← hKw.out, if_pos hlt3, if_neg hb1, if_neg hb2]; rfl
        rw [hB]
        rw [hE] at hS7
        replace hS7 := hid_e hS7
        clear hB hE hb1 hb2
        obtain ⟨z0, z1, z2, z3, z4, -⟩ := row_cells hM8.out.box
        obtain ⟨v0, v1, v2, v3, v4, vf⟩ := row_cells hM8.out.res
        have vf0 := vf 0; have vf1 := vf 1; have vf2 := vf 2; have vf3 := vf 3; have vf4 := vf 4
        clear vf
        go_wp2_with fail
        have hr5 := put5_cells hM8.out.res (.int .i64 5) (.int .i64 0) (.string ⟨#[]⟩) (.slice none 0 0) (.slice (some ⟨gi, 0, none⟩) (m + 1) cI)
        have r0 := hr5 0; have r1 := hr5 1; have r2 := hr5 2; have r3 := hr5 3; have r4 := hr5 4
        clear hr5
        refine bodyPost_ret (v := .agg #[.int .i64 5, .int .i64 0, .string ⟨#[]⟩, .slice none 0 0, .slice (some ⟨gi, 0, none⟩) (m + 1) cI]) (by simp [results, Tryz.results26, go_sem, r0, r1, r2, r3, r4]) rfl ?_
        rw [hRe.out]
        exact RValPost.mk (w := w) hrl (fun j q e => by cases e) hS7.out hM8.out.fr
      have hB : commaB T m3 = true := by unfold commaB; rw [hm3.out, hb2, decide_eq_true hlt3]; rfl
      have hE : commaR T 93 m3 = .ok () (skip T (s3 + 1)) := by unfold commaR; rw [hm3.out, if_pos hlt3, if_pos (.inl hb2)]
      rw [hE] at hS7
      replace hS7 : Hid (RT w5 r T ((skip T (s3 + 1) : Nat) : Int) 0 0) := hS7
      have hsk := skip_bd T (s3 + 1) hlt3
      rw [if_pos hlt3, if_neg hb1, if_pos hb2] at hKw
      rw [hB]
      clear hB hE
      go_wp2_with fail
      go_roundg g'
      case measure => omega
      case rel => exact ⟨skip T (s3 + 1), its ++ [u], m + 1, _, some ⟨gi, 0, none⟩, cI, hsk.2, by omega, by rw [Hid, List.length_append, him.out]; rfl, by omega, hS7, by rw [Hid, ofL_snoc]; exact hM8.out, hKw⟩
end Go.Proofs.YtlkomknjgfjnlaaGreatDoor.Tree
