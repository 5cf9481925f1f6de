import Derived.Test.YtnccaidlcaeeaaaGreatDoorOI
import Derived.Test.YtnccaidlcaeeaaaGreatDoorU1
/-! apart. -/
namespace Go.Proofs.YtnccaidlcaeeaaaGreatDoor.Tree
open Go Go.RowKit

theorem Bo.below {S : Nat → Prop} {w : World} {nds : List Nd} {gl cl i : Nat} {ga : Option Addr} {gc : Nat} {cells : List Value} {wr w' : World} (h : Bo S w nds gl cl i ga gc cells wr) (hb : Below wr.heap.size wr w') : Bo S w nds gl cl i ga gc cells w' :=
  ⟨h.fr.next (Fr.of_below (S := fun _ => False) hb) (fun _ e => e.elim), h.row.below hb, fun j e he hj => (h.hi j e he hj).keep hb.size (fun b _ hl => hb.block b hl), fun j e he hj => by
    obtain ⟨an, cn, ai, ci, l1, l2, l3, l4⟩ := h.lo j e he hj
    exact ⟨an, cn, ai, ci, l1, l2, l3.keep hb.size (fun b hb' => hb.block b (l3.lt b hb')), l4⟩, h.g.below hb, fun b hb' => ⟨(h.gx b hb').1, Nat.lt_of_lt_of_le (h.gx b hb').2.1 hb.size, (h.gx b hb').2.2⟩, h.gz, h.glx.1, Nat.lt_of_lt_of_le h.glx.2 hb.size⟩
theorem bo_start {S : Nat → Prop} {w : World} {nds : List Nd} {gl cl : Nat} {wr : World} (h : ApA S w nds gl cl nds.length 0 0 wr) (hg : gl < wr.heap.size) (hp : 0 < nds.length) : Bo S w nds gl cl 0 none 0 [] wr :=
  ⟨h.fr, h.row, fun j e he _ => (h.each j e he).imp (fun ys hy => hy.1 (List.getElem?_eq_some_iff.1 he).1) (fun zs hz => hz.1 (List.getElem?_eq_some_iff.1 he).1), fun j e he hj => by omega, Rw.nil _ _ _ _, fun b ⟨o, s, e⟩ => (by cases e), .inl rfl, h.glo hp, hg⟩
theorem in_start {S : Nat → Prop} {W0 : Nat} {nds : List Nd} {X : World} {d : Nd} {i : Nat} (hN : Nds S W0 nds) (hd : nds[i]? = some d) (hW : W0 ≤ X.heap.size) (h : RwN X d (FS i d.n) (FV i d.m)) : In X d i X.heap.size 0 0 d.an d.cn d.ai d.ci (X.alloc (.cells #[.int .i64 0, .int .i64 0, .string ⟨#[]⟩, .slice d.an d.n d.cn, .slice d.ai d.m d.ci] 25)) := by
  have hb : Below X.heap.size X (X.alloc (.cells #[.int .i64 0, .int .i64 0, .string ⟨#[]⟩, .slice d.an d.n d.cn, .slice d.ai d.m d.ci] 25)) := (Below.refl _ X).alloc (Nat.le_refl _) _
  have hg := gr_start hN hd hW h
  refine ⟨Fr.of_below hb, hg.keep hb.size (fun b hb' => hb.block b (hg.lt b hb')), heap_alloc_new X _, fun b hb' e => ?_, Nat.le_refl _⟩
  have := hg.lt b (.inr hb')
  omega
set_option maxHeartbeats 16000000 in
set_option maxRecDepth 100000 in
theorem apart_true (k x : Int) (s : ByteArray) (an0 : Option Addr) (ln0 cn0 : Nat) (ai0 : Option Addr) (li0 ci0 : Nat) (h : HT) (w : World) (hh : Hid (h.head = five k x s (.slice an0 ln0 cn0) (.slice ai0 li0 ci0))) (hO : Hid (OwnF w h))
    (hS : Hid (∀ u ∈ preT h, (u.names.length + 16) * 16 ≤ 140737488355328 ∧ (u.kids.length + 16) * 80 ≤ 140737488355328)) (hf : Hid ((preT h).length * 80 ≤ 140737488355328)) :
    Calls Tryz.prog 11 #[.agg #[.int .i64 k, .int .i64 x, .string s, .slice an0 ln0 cn0, .slice ai0 li0 ci0]] w fun e w' => e = .returned (.bool true) ∧ Fr (· ∈ bksT h) w w' := by
  obtain ⟨nds, hlen, hflat, hN0, hR0⟩ := nds_of hO.out hS.out hf.out
  have hN := hid_e hN0
  have hfew : nds.length * 80 ≤ 140737488355328 := hN0.few
  have hpos : Hid (0 < nds.length) := by rw [hlen]; exact preT_pos h
  have hO1 : OwnF (w.alloc (.cells #[.int .i64 k, .int .i64 x, .string s, .slice an0 ln0 cn0, .slice ai0 li0 ci0] 25)) h := hO.out.keep (fun g hg => Below.heap_alloc _ _ _ (hO.out.lt g hg))
  have hcall := under_any h _ hO1 hf.out
  rw [hh.out] at hcall
  replace hcall := hid_e hcall
  obtain ⟨y0, y1, y2, y3, y4, -⟩ := row_cells (heap_alloc_new w (.cells #[.int .i64 k, .int .i64 x, .string s, .slice an0 ln0 cn0, .slice ai0 li0 ci0] 25))
  have hstart : Hid (∀ gl cl W1, W1.ownsRow (w.alloc (.cells #[.int .i64 k, .int .i64 x, .string s, .slice an0 ln0 cn0, .slice ai0 li0 ci0] 25)).heap.size 25 5 (.slice (some ⟨gl, 0, none⟩) (preT h).length cl) (preT h).length (flatH (preT h)) → Below (w.alloc (.cells #[.int .i64 k, .int .i64 x, .string s, .slice an0 ln0 cn0, .slice ai0 li0 ci0] 25)).heap.size (w.alloc (.cells #[.int .i64 k, .int .i64 x, .string s, .slice an0 ln0 cn0, .slice ai0 li0 ci0] 25)) W1 → ApA (· ∈ bksT h) w nds gl cl 0 0 0 W1 ∧ gl < W1.heap.size) := by
    intro gl cl W1 hr hb
    have hb' : Below w.heap.size w W1 := below_box hb
    refine ⟨⟨Fr.of_below hb', ?_, fun j d hd => ((hR0 j d hd).keep hb'.size (fun b _ hl => hb'.block b hl)).imp (fun _ _ => ⟨fun e => by omega, fun _ p hp => by omega⟩) (fun _ _ => ⟨fun e => by omega, fun _ p hp => by omega⟩)⟩, (ownsRow_ge hr (g := gl) rfl).2⟩
    rw [← hlen, hflat] at hr
    exact rw_of (ownsRow_lo hr (by rw [World.size_alloc]; omega))
  replace hlen := hid_e hlen
  clear hR0 hflat hO1 hO hS hf hh hN0
  generalize (fun b => b ∈ bksT h) = S at hN hstart ⊢
  go_enter Tryz.func11, Tryz.ntmps11
  go_wp2_with (go_at_call 20; refine hcall.out.mono ?_; rintro e W1 ⟨gl, cl, rfl, hr, hb⟩; obtain ⟨hA0, hgl⟩ := hstart.out gl cl W1 hr hb; rw [← hlen.out]; replace hA0 := hid_e hA0; replace hgl := hid_e hgl; clear hr hb y0 y1 y2 y3 y4 hcall hstart)
  generalize hNe : nds.length = N at hfew hpos ⊢
  replace hNe := hid_e hNe
  go_loopw [4] (fun iv wr => ∃ i : Nat, i ≤ N ∧ iv = .int .i64 i ∧ gl < wr.heap.size ∧ Hid (ApA S w nds gl cl i 0 0 wr)) (fun iv _ => N - (intOf iv).toNat)
  case atStart => exact ⟨0, Nat.zero_le _, rfl, hgl.out, hA0⟩
  case round =>
    clear hA0 hgl
    obtain ⟨i, hi, rfl, hgl, hA⟩ := hrel
    by_cases hlt : i < N
    · have i1 : (i : Int) < (N : Int) := by omega
      obtain ⟨d, hd⟩ : ∃ d, Hid (nds[i]? = some d) := ⟨_, List.getElem?_eq_getElem (by rw [hNe.out]; exact hlt)⟩
      have hi63 : Hid ((i : Int) ≤ 9223372036854775807 ∧ -9223372036854775808 ≤ (i : Int)) := by show _ ∧ _; omega
      have hdm := hid_e (hN.out.sm i d hd.out)
      replace hgl := hid_e hgl
      go_wp2_with fail
      go_loopw [5] (fun iv wr => ∃ k1 : Nat, k1 ≤ d.m ∧ iv = .int .i64 k1 ∧ gl < wr.heap.size ∧ Hid (ApA S w nds gl cl i k1 0 wr)) (fun iv _ => d.m - (intOf iv).toNat)
      case atStart => exact ⟨0, Nat.zero_le _, rfl, hgl.out, hA⟩
      case round =>
        clear hA hgl
        obtain ⟨k1, hk1, rfl, hgl, hA⟩ := hrel
        have hdm1 := hdm.out.2
        replace hgl := hid_e hgl
        have y4 := rw_cell hA.out.row ((flatN_at hd.out 4 (by decide)).trans (show _ = some (.slice d.ai d.m d.ci) from rfl))
        by_cases hlt1 : k1 < d.m
        · have i2 : (k1 : Int) < (d.m : Int) := by omega
          obtain ⟨-, zs, hz, -⟩ := hA.out.each i d hd.out
          obtain ⟨b, o, hbo⟩ := hz.addr (by omega)
          obtain ⟨b', hb⟩ := (hN.out.zi i d hd.out).resolve_left (by rw [hbo]; simp)
          rw [hb] at hbo hz
          cases hbo
          have hput := hid_e (hA.out.setV hN.out hd.out hb hlt1)
          obtain ⟨⟨u0, c0⟩, f0⟩ := hz.at (j := k1 * 5) (by omega)
          obtain ⟨⟨u1, c1⟩, f1⟩ := hz.at (j := k1 * 5 + 1) (by omega)
          obtain ⟨⟨u2, c2⟩, f2⟩ := hz.at (j := k1 * 5 + 2) (by omega)
          obtain ⟨⟨u3, c3⟩, f3⟩ := hz.at (j := k1 * 5 + 3) (by omega)
          obtain ⟨⟨u4, c4⟩, f4⟩ := hz.at (j := k1 * 5 + 4) (by omega)
          simp only [Nat.zero_add] at c0 c1 c2 c3 c4 f0 f1 f2 f3 f4
          rw [hb] at y4
          replace hb := hid_e hb
          clear hz
          go_wp2_with fail
          clear u0 u1 u2 u3 u4 c0 c1 c2 c3 c4 f0 f1 f2 f3 f4 y4
          go_roundw
          case rel => exact ⟨k1 + 1, by omega, by go_num, by simpa [World.setCell] using hgl.out, hput⟩
          case measure => simp [intOf]; omega
        · obtain rfl : k1 = d.m := by omega
          clear hk1 hlt1
          go_wp2_with fail
          clear y4
          go_loopw [6] (fun iv wr => ∃ k2 : Nat, k2 ≤ d.n ∧ iv = .int .i64 k2 ∧ gl < wr.heap.size ∧ Hid (ApA S w nds gl cl i d.m k2 wr)) (fun iv _ => d.n - (intOf iv).toNat)
          case atStart => exact ⟨0, Nat.zero_le _, rfl, hgl.out, hA⟩
          case round =>
            clear hA hgl
            obtain ⟨k2, hk2, rfl, hgl, hA⟩ := hrel
            have hdm2 := hdm.out.1
            replace hgl := hid_e hgl
            have y3 := rw_cell hA.out.row ((flatN_at hd.out 3 (by decide)).trans (show _ = some (.slice d.an d.n d.cn) from rfl))
            by_cases hlt2 : k2 < d.n
            · have i2 : (k2 : Int) < (d.n : Int) := by omega
              obtain ⟨⟨ys, hy, -⟩, -⟩ := hA.out.each i d hd.out
              obtain ⟨b, o, hbo⟩ := hy.addr (by omega)
              obtain ⟨b', hb⟩ := (hN.out.za i d hd.out).resolve_left (by rw [hbo]; simp)
              rw [hb] at hbo
              cases hbo
              clear hy
              rw [hb] at y3
              have hb0 : Hid (b ≠ gl) := fun e => by have := (hN.out.bk i d b hd.out (.inl (by rw [hb]; exact blk_some.2 rfl))).2; have := hA.out.glo (by rw [hNe.out]; exact hpos.out); omega
              replace hb := hid_e hb
              go_upto_region 12 with fail
              replace hA := hid_e (hA.out.below (w2 := wr.drew) (below_drew (Below.refl _ _)))
              replace y3 : wr.drew.cell? ⟨gl, i * 5 + 3, none⟩ = _ := y3
              replace hgl : Hid (gl < wr.drew.heap.size) := hgl
              generalize hX : wr.drew = X at hA y3 hgl
              refine wp_region_noPanic ?_
              refine Until.wp_region_U (fun w' => w'.cell? ⟨gl, i * 5 + 3, none⟩ = some (.slice (some ⟨b, 0, none⟩) d.n d.cn)) (fun _ => True) 9 (by kernel_rfl) ?_
              rw [hX]
              clear hX
              refine Until.wpU_pure (i := 0) (oi := { dst := some 51, op := Op.move (Operand.tmp 3), type := 23, pos := "law.go:71", after := #[], guard := none }) (v := .slice (some ⟨gl, 0, none⟩) N cl) rfl (by kernel_rfl) (by kernel_rfl) (by kernel_rfl) (by kernel_rfl) (by kernel_rfl) (fun _ _ _ h => h) (y3) (fun _ => trivial) (by rfl) (by intro w'; go_simp) ?_
              try simp only [Act.put, List.setIfInBounds_toArray, List.set_cons_zero, List.set_cons_succ]
              refine Until.wpU_pure (i := 1) (oi := { dst := some 52, op := Op.move (Operand.tmp 4), type := 3, pos := "law.go:71", after := #[], guard := none }) (v := .int .i64 i) rfl (by kernel_rfl) (by kernel_rfl) (by kernel_rfl) (by kernel_rfl) (by kernel_rfl) (fun _ _ _ h => h) (y3) (fun _ => trivial) (by rfl) (by intro w'; go_simp) ?_
              try simp only [Act.put, List.setIfInBounds_toArray, List.set_cons_zero, List.set_cons_succ]
              refine Until.wpU_pure (i := 2) (oi := { dst := some 53, op := Op.indexAddr 23 (Operand.tmp 51) (Operand.tmp 52), type := 0, pos := "law.go:71", after := #[{ on := 0, ground := Ground.data }, { on := 1, ground := Ground.data }], guard := none }) (v := .pointer (some ⟨gl, i * 5, none⟩)) rfl (by kernel_rfl) (by kernel_rfl) (by kernel_rfl) (by kernel_rfl) (by kernel_rfl) (fun _ _ _ h => h) (y3) (fun _ => trivial) (by rfl) (by intro w'; go_simp) ?_
              try simp only [Act.put, List.setIfInBounds_toArray, List.set_cons_zero, List.set_cons_succ]
              refine Until.wpU_pure (i := 3) (oi := { dst := some 54, op := Op.fieldAddr 25 (Operand.tmp 53) 3, type := 0, pos := "law.go:71", after := #[{ on := 2, ground := Ground.data }], guard := none }) (v := .pointer (some ⟨gl, i * 5 + 3, none⟩)) rfl (by kernel_rfl) (by kernel_rfl) (by kernel_rfl) (by kernel_rfl) (by kernel_rfl) (fun _ _ _ h => h) (y3) (fun _ => trivial) (by rfl) (by intro w'; go_simp) ?_
              try simp only [Act.put, List.setIfInBounds_toArray, List.set_cons_zero, List.set_cons_succ]
              refine Until.wpU_load0 (i := 4) (oi := { dst := some 55, op := Op.load 22 (Operand.tmp 54), type := 22, pos := "law.go:71", after := #[{ on := 3, ground := Ground.data }], guard := none }) (v := .slice (some ⟨b, 0, none⟩) d.n d.cn) rfl (by kernel_rfl) (by kernel_rfl) (by kernel_rfl) (by kernel_rfl) (by kernel_rfl) (fun _ _ _ h => h) (y3) (fun _ => trivial) (by rfl) (by intro w' hw'; have t0 := hw'; clear hw'; go_simp) ?_
              try simp only [Act.put, List.setIfInBounds_toArray, List.set_cons_zero, List.set_cons_succ]
              refine Until.wpU_pure (i := 5) (oi := { dst := some 56, op := Op.move (Operand.tmp 6), type := 3, pos := "law.go:71", after := #[], guard := none }) (v := .int .i64 k2) rfl (by kernel_rfl) (by kernel_rfl) (by kernel_rfl) (by kernel_rfl) (by kernel_rfl) (fun _ _ _ h => h) (y3) (fun _ => trivial) (by rfl) (by intro w'; go_simp) ?_
              try simp only [Act.put, List.setIfInBounds_toArray, List.set_cons_zero, List.set_cons_succ]
              refine Until.wpU_pure (i := 6) (oi := { dst := some 57, op := Op.move (Operand.tmp 4), type := 3, pos := "law.go:71", after := #[], guard := none }) (v := .int .i64 i) rfl (by kernel_rfl) (by kernel_rfl) (by kernel_rfl) (by kernel_rfl) (by kernel_rfl) (fun _ _ _ h => h) (y3) (fun _ => trivial) (by rfl) (by intro w'; go_simp) ?_
              try simp only [Act.put, List.setIfInBounds_toArray, List.set_cons_zero, List.set_cons_succ]
              refine Until.wpU_ready (rs := [7]) (by kernel_rfl) (by simp) ?_
              refine (Until.AllU.cons (o := { dst := some 58, op := Op.call { callee := Callee.value (Operand.func 21), args := #[Operand.tmp 57], argTypes := #[2] }, type := 9, pos := "law.go:71", after := #[{ on := 6, ground := Ground.data }], guard := none }) rfl (fun K hK => ?_) Until.AllU.nil)
              go_simp
              refine (digits_code i hi63.out.2 hi63.out.1 _).mono ?_
              rintro e w2 ⟨rfl, hb2⟩
              replace hA := hid_e (hA.out.below hb2)
              replace y3 := stay hb2 y3
              replace hgl : Hid (gl < w2.heap.size) := Nat.lt_of_lt_of_le hgl.out hb2.size
              clear hb2
              refine hK.out _ _ (y3) (fun _ => trivial) ?_
              clear hK K
              try simp only [Act.put, List.setIfInBounds_toArray, List.set_cons_zero, List.set_cons_succ]
              refine Until.wpU_pure (i := 8) (oi := { dst := some 59, op := Op.indexAddr 22 (Operand.tmp 55) (Operand.tmp 56), type := 0, pos := "law.go:71", after := #[{ on := 4, ground := Ground.data }, { on := 5, ground := Ground.data }, { on := 0, ground := Ground.phase }, { on := 1, ground := Ground.phase }, { on := 2, ground := Ground.phase }, { on := 3, ground := Ground.phase }, { on := 4, ground := Ground.phase }, { on := 5, ground := Ground.phase }, { on := 6, ground := Ground.phase }, { on := 7, ground := Ground.phase }], guard := none }) (v := .pointer (some ⟨b, k2, none⟩)) rfl (by kernel_rfl) (by kernel_rfl) (by kernel_rfl) (by kernel_rfl) (by kernel_rfl) (fun _ _ _ h => h) (y3) (fun _ => trivial) (by rfl) (by intro w'; go_simp) ?_
              try simp only [Act.put, List.setIfInBounds_toArray, List.set_cons_zero, List.set_cons_succ]
              have hput := hid_e (hA.out.setN hN.out hd.out hb.out hlt2)
              obtain ⟨⟨ys, hy, -⟩, -⟩ := hA.out.each i d hd.out
              rw [hb.out] at hy
              obtain ⟨⟨u0, c0⟩, f0⟩ := hy.at (j := k2) (by omega)
              simp only [Nat.zero_add] at c0 f0
              clear hy
              have y5 : (w2.setCell ⟨b, k2, none⟩ (.string (dig i))).cell? ⟨gl, i * 5 + 3, none⟩ = some (.slice (some ⟨b, 0, none⟩) d.n d.cn) := (World.cell?_setCell_far _ _ _ _ hb0.out).trans y3
              refine Until.wpU_ready (rs := [9]) (by kernel_rfl) (by simp) ?_
              refine (Until.AllU.cons (o := { dst := none, op := Op.store 9 (Operand.tmp 59) (Operand.tmp 58), type := 0, pos := "law.go:71", after := #[{ on := 8, ground := Ground.data }, { on := 7, ground := Ground.data }, { on := 7, ground := Ground.chain }, { on := 0, ground := Ground.phase }, { on := 1, ground := Ground.phase }, { on := 2, ground := Ground.phase }, { on := 3, ground := Ground.phase }, { on := 4, ground := Ground.phase }, { on := 5, ground := Ground.phase }, { on := 6, ground := Ground.phase }, { on := 7, ground := Ground.phase }], guard := none }) rfl (fun K hK => ?_) Until.AllU.nil)
              go_simp
              refine hK.out _ _ (y5) (fun _ => trivial) ?_
              clear hK K
              try simp only [Act.put, List.setIfInBounds_toArray, List.set_cons_zero, List.set_cons_succ]
              refine Until.wpU_done (by kernel_rfl) ?_ _
              refine NoPanic.normal ?_
              clear y3 y5 c0 f0 u0
              go_wp2_with fail
              go_roundw
              case rel => exact ⟨k2 + 1, by omega, by go_num, by simpa [World.setCell] using hgl.out, hput⟩
              case measure => simp [intOf]; omega
            · obtain rfl : k2 = d.n := by omega
              clear hk2 hlt2
              go_wp2_with fail
              clear y3
              go_roundw
              case rel => exact ⟨i + 1, by omega, by go_num, hgl.out, hid_e (hA.out.next hd.out)⟩
              case measure => simp [intOf]; omega
    · obtain rfl : i = N := by omega
      clear hi hlt
      have hBo : Hid (Bo S w nds gl cl 0 none 0 [] wr) := bo_start (by rw [hNe.out]; exact hA.out) hgl (by rw [hNe.out]; exact hpos.out)
      clear hA hgl
      go_wp2_with fail
      obtain ⟨iV, hiV, hv0, hv1, hv2⟩ := info_parts AV
      obtain ⟨i9, hi9, hy0, hy1, hy2⟩ := info_parts A9
      go_loopw [7, 8] (fun gv iv wr => ∃ (p : Nat) (ga : Option Addr) (gc : Nat) (cells : List Value), p ≤ i ∧ iv = .int .i64 p ∧ gv = .slice ga p gc ∧ Hid (Bo S w nds gl cl p ga gc cells wr)) (fun _ iv _ => i - (intOf iv).toNat)
      case atStart => exact ⟨0, none, 0, [], Nat.zero_le _, rfl, rfl, hBo⟩
      case round =>
        clear hBo
        obtain ⟨p, ga, gc, cells, hp, rfl, rfl, hB⟩ := hrel
        by_cases hlt : p < i
        · have i1 : (p : Int) < (i : Int) := by omega
          obtain ⟨d, hd⟩ : ∃ d, Hid (nds[p]? = some d) := ⟨_, List.getElem?_eq_getElem (by rw [hNe.out]; exact hlt)⟩
          have hi63 : Hid ((p : Int) ≤ 9223372036854775807 ∧ -9223372036854775808 ≤ (p : Int)) := by show _ ∧ _; omega
          have hdm := hid_e (hN.out.sm p d hd.out)
          have hbm : Hid (∀ q, q < 16 → d.m + q + 1 ≤ maxLen ∧ (d.m + q + 1) * 80 ≤ 140737488355328) := fun q hq => by have := hdm.out.2; unfold maxLen; omega
          have hbn : Hid (∀ q, q < 16 → d.n + q + 1 ≤ maxLen ∧ (d.n + q + 1) * 16 ≤ 140737488355328) := fun q hq => by have := hdm.out.1; unfold maxLen; omega
          have hbp : Hid (p + 1 ≤ maxLen ∧ (p + 1) * 80 ≤ 140737488355328) := by show _ ∧ _; unfold maxLen; omega
          go_upto_region 17 with fail
          replace hB := hid_e (hB.out.below (w' := wr.drew) (below_drew (Below.refl _ _)))
          generalize hX : wr.drew = X at hB
          have y3 := rw_cell hB.out.row ((flatN_at hd.out 3 (by decide)).trans (show _ = some (.slice d.an d.n d.cn) from rfl))
          have y4 := rw_cell hB.out.row ((flatN_at hd.out 4 (by decide)).trans (show _ = some (.slice d.ai d.m d.ci) from rfl))
          have hWX : Hid (w.heap.size ≤ X.heap.size) := hB.out.fr.size
          have hIn := in_start hN.out hd.out hWX.out (hB.out.hi p d hd.out (Nat.le_refl _))
          replace hIn := hid_e hIn
          refine wp_region_noPanic ?_
          refine Until.wp_region_U (fun _ => True) (fun w' => w'.cell? ⟨gl, p * 5 + 3, none⟩ = some (.slice d.an d.n d.cn) ∧ w'.cell? ⟨gl, p * 5 + 4, none⟩ = some (.slice d.ai d.m d.ci)) 12 (by kernel_rfl) ?_
          rw [hX]
          clear hX
          refine Until.wpU_pure (i := 0) (oi := { dst := some 66, op := Op.move (Operand.tmp 3), type := 23, pos := "law.go:76", after := #[], guard := none }) (v := .slice (some ⟨gl, 0, none⟩) i cl) rfl (by kernel_rfl) (by kernel_rfl) (by kernel_rfl) (by kernel_rfl) (by kernel_rfl) (fun _ _ _ h => h) (trivial) (fun _ => ⟨y3, y4⟩) (by rfl) (by intro w'; go_simp) ?_
          try simp only [Act.put, List.setIfInBounds_toArray, List.set_cons_zero, List.set_cons_succ]
          refine Until.wpU_pure (i := 1) (oi := { dst := some 67, op := Op.move (Operand.tmp 8), type := 3, pos := "law.go:76", after := #[], guard := none }) (v := .int .i64 p) rfl (by kernel_rfl) (by kernel_rfl) (by kernel_rfl) (by kernel_rfl) (by kernel_rfl) (fun _ _ _ h => h) (trivial) (fun _ => ⟨y3, y4⟩) (by rfl) (by intro w'; go_simp) ?_
          try simp only [Act.put, List.setIfInBounds_toArray, List.set_cons_zero, List.set_cons_succ]
          refine Until.wpU_pure (i := 2) (oi := { dst := some 68, op := Op.indexAddr 23 (Operand.tmp 66) (Operand.tmp 67), type := 0, pos := "law.go:76", after := #[{ on := 0, ground := Ground.data }, { on := 1, ground := Ground.data }], guard := none }) (v := .pointer (some ⟨gl, p * 5, none⟩)) rfl (by kernel_rfl) (by kernel_rfl) (by kernel_rfl) (by kernel_rfl) (by kernel_rfl) (fun _ _ _ h => h) (trivial) (fun _ => ⟨y3, y4⟩) (by rfl) (by intro w'; go_simp) ?_
          try simp only [Act.put, List.setIfInBounds_toArray, List.set_cons_zero, List.set_cons_succ]
          refine Until.wpU_pure (i := 3) (oi := { dst := some 69, op := Op.fieldAddr 25 (Operand.tmp 68) 3, type := 0, pos := "law.go:76", after := #[{ on := 2, ground := Ground.data }], guard := none }) (v := .pointer (some ⟨gl, p * 5 + 3, none⟩)) rfl (by kernel_rfl) (by kernel_rfl) (by kernel_rfl) (by kernel_rfl) (by kernel_rfl) (fun _ _ _ h => h) (trivial) (fun _ => ⟨y3, y4⟩) (by rfl) (by intro w'; go_simp) ?_
          try simp only [Act.put, List.setIfInBounds_toArray, List.set_cons_zero, List.set_cons_succ]
          refine Until.wpU_load1 (i := 4) (oi := { dst := some 70, op := Op.load 22 (Operand.tmp 69), type := 22, pos := "law.go:76", after := #[{ on := 3, ground := Ground.data }], guard := none }) (v := .slice d.an d.n d.cn) rfl (by kernel_rfl) (by kernel_rfl) (by kernel_rfl) (by kernel_rfl) (by kernel_rfl) (by kernel_rfl) (fun _ _ _ h => h) (trivial) (⟨y3, y4⟩) (by rfl) (by intro w' hw'; have t0 := hw'.1; clear hw'; go_simp) ?_
          try simp only [Act.put, List.setIfInBounds_toArray, List.set_cons_zero, List.set_cons_succ]
          refine Until.wpU_pure (i := 5) (oi := { dst := some 71, op := Op.move (Operand.tmp 3), type := 23, pos := "law.go:76", after := #[], guard := none }) (v := .slice (some ⟨gl, 0, none⟩) i cl) rfl (by kernel_rfl) (by kernel_rfl) (by kernel_rfl) (by kernel_rfl) (by kernel_rfl) (fun _ _ _ h => h) (trivial) (fun _ => ⟨y3, y4⟩) (by rfl) (by intro w'; go_simp) ?_
          try simp only [Act.put, List.setIfInBounds_toArray, List.set_cons_zero, List.set_cons_succ]
          refine Until.wpU_pure (i := 6) (oi := { dst := some 72, op := Op.move (Operand.tmp 8), type := 3, pos := "law.go:76", after := #[], guard := none }) (v := .int .i64 p) rfl (by kernel_rfl) (by kernel_rfl) (by kernel_rfl) (by kernel_rfl) (by kernel_rfl) (fun _ _ _ h => h) (trivial) (fun _ => ⟨y3, y4⟩) (by rfl) (by intro w'; go_simp) ?_
          try simp only [Act.put, List.setIfInBounds_toArray, List.set_cons_zero, List.set_cons_succ]
          refine Until.wpU_pure (i := 7) (oi := { dst := some 73, op := Op.indexAddr 23 (Operand.tmp 71) (Operand.tmp 72), type := 0, pos := "law.go:76", after := #[{ on := 5, ground := Ground.data }, { on := 6, ground := Ground.data }], guard := none }) (v := .pointer (some ⟨gl, p * 5, none⟩)) rfl (by kernel_rfl) (by kernel_rfl) (by kernel_rfl) (by kernel_rfl) (by kernel_rfl) (fun _ _ _ h => h) (trivial) (fun _ => ⟨y3, y4⟩) (by rfl) (by intro w'; go_simp) ?_
          try simp only [Act.put, List.setIfInBounds_toArray, List.set_cons_zero, List.set_cons_succ]
          refine Until.wpU_pure (i := 8) (oi := { dst := some 74, op := Op.fieldAddr 25 (Operand.tmp 73) 4, type := 0, pos := "law.go:76", after := #[{ on := 7, ground := Ground.data }], guard := none }) (v := .pointer (some ⟨gl, p * 5 + 4, none⟩)) rfl (by kernel_rfl) (by kernel_rfl) (by kernel_rfl) (by kernel_rfl) (by kernel_rfl) (fun _ _ _ h => h) (trivial) (fun _ => ⟨y3, y4⟩) (by rfl) (by intro w'; go_simp) ?_
          try simp only [Act.put, List.setIfInBounds_toArray, List.set_cons_zero, List.set_cons_succ]
          refine Until.wpU_load1 (i := 9) (oi := { dst := some 75, op := Op.load 23 (Operand.tmp 74), type := 23, pos := "law.go:76", after := #[{ on := 8, ground := Ground.data }], guard := none }) (v := .slice d.ai d.m d.ci) rfl (by kernel_rfl) (by kernel_rfl) (by kernel_rfl) (by kernel_rfl) (by kernel_rfl) (by kernel_rfl) (fun _ _ _ h => h) (trivial) (⟨y3, y4⟩) (by rfl) (by intro w' hw'; have t0 := hw'.2; clear hw'; go_simp) ?_
          try simp only [Act.put, List.setIfInBounds_toArray, List.set_cons_zero, List.set_cons_succ]
          refine Until.wpU_pure (i := 10) (oi := { dst := some 76, op := Op.build 25 #[(3, Operand.tmp 70), (4, Operand.tmp 75)], type := 25, pos := "law.go:76", after := #[{ on := 4, ground := Ground.data }, { on := 9, ground := Ground.data }], guard := none }) (v := .agg #[.int .i64 0, .int .i64 0, .string ⟨#[]⟩, .slice d.an d.n d.cn, .slice d.ai d.m d.ci]) rfl (by kernel_rfl) (by kernel_rfl) (by kernel_rfl) (by kernel_rfl) (by kernel_rfl) (fun _ _ _ h => h) (trivial) (fun _ => ⟨y3, y4⟩) (by rfl) (by intro w'; go_simp) ?_
          try simp only [Act.put, List.setIfInBounds_toArray, List.set_cons_zero, List.set_cons_succ]
          refine Until.wpU_ready (rs := [11]) (by kernel_rfl) (by simp) ?_
          refine (Until.AllU.cons (o := { dst := some 9, op := Op.alloc 25, type := 0, pos := "law.go:76", after := #[], guard := none }) rfl (fun K hK => ?_) Until.AllU.nil)
          go_simp
          have q3 := cell_alloc' y3 (.cells #[.int .i64 0, .int .i64 0, .string ⟨#[]⟩, .slice none 0 0, .slice none 0 0] 25)
          have q4 := cell_alloc' y4 (.cells #[.int .i64 0, .int .i64 0, .string ⟨#[]⟩, .slice none 0 0, .slice none 0 0] 25)
          refine hK.out _ _ (trivial) (fun _ => ⟨q3, q4⟩) ?_
          clear hK K
          try simp only [Act.put, List.setIfInBounds_toArray, List.set_cons_zero, List.set_cons_succ]
          obtain ⟨z0, z1, z2, z3, z4, zf⟩ := row_cells (heap_alloc_new X (.cells #[.int .i64 0, .int .i64 0, .string ⟨#[]⟩, .slice none 0 0, .slice none 0 0] 25))
          have zf0 := zf 0; have zf1 := zf 1; have zf2 := zf 2; have zf3 := zf 3; have zf4 := zf 4
          clear zf
          refine Until.wpU_ready (rs := [12]) (by kernel_rfl) (by simp) ?_
          refine (Until.AllU.cons (o := { dst := none, op := Op.store 25 (Operand.tmp 9) (Operand.tmp 76), type := 0, pos := "law.go:76", after := #[{ on := 11, ground := Ground.data }, { on := 10, ground := Ground.data }, { on := 0, ground := Ground.phase }, { on := 1, ground := Ground.phase }, { on := 2, ground := Ground.phase }, { on := 3, ground := Ground.phase }, { on := 4, ground := Ground.phase }, { on := 5, ground := Ground.phase }, { on := 6, ground := Ground.phase }, { on := 7, ground := Ground.phase }, { on := 8, ground := Ground.phase }, { on := 9, ground := Ground.phase }, { on := 10, ground := Ground.phase }, { on := 11, ground := Ground.phase }], guard := none }) rfl (fun K hK => ?_) Until.AllU.nil)
          go_simp
          refine hK.out _ _ (trivial) (fun h => absurd h (by decide)) ?_
          clear hK K
          try simp only [Act.put, List.setIfInBounds_toArray, List.set_cons_zero, List.set_cons_succ]
          refine Until.wpU_done (by kernel_rfl) ?_ _
          refine NoPanic.normal ?_
          clear z0 z1 z2 z3 z4 zf0 zf1 zf2 zf3 zf4 q3 q4 y3 y4
          generalize X.alloc (.cells #[.int .i64 0, .int .i64 0, .string ⟨#[]⟩, .slice d.an d.n d.cn, .slice d.ai d.m d.ci] 25) = V at hIn ⊢
          generalize X.heap.size = bg at hIn ⊢
          go_wp2_with fail
          go_loopw [10] (fun iv wr => ∃ (q : Nat) (an : Option Addr) (cn : Nat) (ai : Option Addr) (ci : Nat), q ≤ 16 ∧ iv = .int .i64 q ∧ Hid (In X d p bg q q an cn ai ci wr)) (fun iv _ => 16 - (intOf iv).toNat)
          case atStart => exact ⟨0, _, _, _, _, Nat.zero_le _, rfl, hIn⟩
          case round =>
            clear hIn
            obtain ⟨q, an, cn, ai, ci, hq, rfl, hI⟩ := hrel
            obtain ⟨t0, t1, t2, y3, y4, -⟩ := row_cells hI.out.box
            by_cases hlt1 : q < 16
            · have i2 : (q : Int) < 16 := by omega
              clear t0 t1 t2 y3
              have hIa := hI.out.below ((Below.refl _ wr).alloc (Nat.le_refl _) (.cells #[.int .i64 0, .int .i64 p, .string ⟨#[]⟩, .slice none 0 0, .slice none 0 0] 25))
              obtain ⟨zs, hz, hF⟩ := hIa.gr.il.new
              have hsrc : Src Tryz.prog 5 23 (.slice (some ⟨wr.heap.size, 0, none⟩) 1 1) 1 [.int .i64 0, .int .i64 p, .string ⟨#[]⟩, .slice none 0 0, .slice none 0 0] (wr.alloc (.cells #[.int .i64 0, .int .i64 p, .string ⟨#[]⟩, .slice none 0 0, .slice none 0 0] 25)) := Src.of_block Tryz.underlying23 (heap_alloc_new wr (.cells #[.int .i64 0, .int .i64 p, .string ⟨#[]⟩, .slice none 0 0, .slice none 0 0] 25)) 1 1 rfl (five_one 0 p ⟨#[]⟩ none 0 0 none 0 0)
              replace hIa := hid_e hIa
              replace hz := hid_e hz
              replace hF := hid_e hF
              replace hsrc := hid_e hsrc
              go_upto_region 21 with fail
              go_upto_region 22 with (at_builtin; refine wpList_append_rw _ rfl _ _ 23 rfl 25 iV _ 5 80 Tryz.underlying23 hiV hv0 hv1 hv2 rfl 0 ai (d.m + q) ci zs rfl hz.out.len hz.out.le hz.out.mx hz.out.rd _ rfl 1 _ hsrc.out (fun _ => hz.out) (by decide) (hbm.out q hlt1).1 (hbm.out q hlt1).2 (Nat.zero_le _) ?_; intro g of c' w2 hA; obtain ⟨hof, hbx, hI2⟩ := In.item hN.out hd.out hWX.out hIa.out hz.out hF.out hA; subst hof; obtain ⟨-, -, -, -, z4, zf⟩ := row_cells hbx; have zf4 := zf 4; replace hI2 := hid_e hI2; clear zf y4 hIa hz hF hsrc hA hI)
              clear z4 zf4 hbx
              generalize w2.setCell ⟨bg, 4, none⟩ (.slice (some ⟨g, 0, none⟩) (d.m + q + 1) c') = Wb at hI2 ⊢
              replace hI2 := hid_e (hI2.out.below (w' := Wb.drew) (below_drew (Below.refl _ _)))
              generalize hX9 : Wb.drew = Y at hI2
              have c5 := hI2.out.box
              refine wp_region_noPanic ?_
              refine Until.wp_region_U (fun _ => True) (fun w' => w'.heap[bg]? = some (.cells #[.int .i64 0, .int .i64 0, .string ⟨#[]⟩, .slice an (d.n + q) cn, .slice (some ⟨g, 0, none⟩) (d.m + (q + 1)) c'] 25 (0, 0))) 7 (by kernel_rfl) ?_
              rw [hX9]
              clear hX9
              refine Until.wpU_pure (i := 0) (oi := { dst := some 88, op := Op.fieldAddr 25 (Operand.tmp 9) 3, type := 0, pos := "law.go:79", after := #[], guard := none }) (v := .pointer (some ⟨bg, 3, none⟩)) rfl (by kernel_rfl) (by kernel_rfl) (by kernel_rfl) (by kernel_rfl) (by kernel_rfl) (fun _ _ _ h => h) (trivial) (fun _ => c5) (by rfl) (by intro w'; go_simp) ?_
              try simp only [Act.put, List.setIfInBounds_toArray, List.set_cons_zero, List.set_cons_succ]
              refine Until.wpU_load1 (i := 1) (oi := { dst := some 89, op := Op.load 22 (Operand.tmp 88), type := 22, pos := "law.go:79", after := #[{ on := 0, ground := Ground.data }], guard := none }) (v := .slice an (d.n + q) cn) rfl (by kernel_rfl) (by kernel_rfl) (by kernel_rfl) (by kernel_rfl) (by kernel_rfl) (by kernel_rfl) (fun _ _ _ h => h) (trivial) (c5) (by rfl) (by intro w' hw'; obtain ⟨t0, t1, t2, t3, t4, -⟩ := row_cells hw'; clear hw'; go_simp) ?_
              try simp only [Act.put, List.setIfInBounds_toArray, List.set_cons_zero, List.set_cons_succ]
              refine Until.wpU_pure (i := 2) (oi := { dst := some 90, op := Op.move (Operand.tmp 8), type := 3, pos := "law.go:79", after := #[], guard := none }) (v := .int .i64 p) rfl (by kernel_rfl) (by kernel_rfl) (by kernel_rfl) (by kernel_rfl) (by kernel_rfl) (fun _ _ _ h => h) (trivial) (fun _ => c5) (by rfl) (by intro w'; go_simp) ?_
              try simp only [Act.put, List.setIfInBounds_toArray, List.set_cons_zero, List.set_cons_succ]
              refine Until.wpU_ready (rs := [3]) (by kernel_rfl) (by simp) ?_
              refine (Until.AllU.cons (o := { dst := some 91, op := Op.call { callee := Callee.value (Operand.func 21), args := #[Operand.tmp 90], argTypes := #[2] }, type := 9, pos := "law.go:79", after := #[{ on := 2, ground := Ground.data }], guard := none }) rfl (fun K hK => ?_) Until.AllU.nil)
              go_simp
              refine (digits_code p hi63.out.2 hi63.out.1 _).mono ?_
              rintro e w3 ⟨rfl, hb2⟩
              replace hI2 := hid_e (hI2.out.below hb2)
              clear c5 hb2
              have c5 := hI2.out.box
              refine hK.out _ _ (trivial) (fun _ => c5) ?_
              clear hK K
              try simp only [Act.put, List.setIfInBounds_toArray, List.set_cons_zero, List.set_cons_succ]
              refine Until.wpU_ready (rs := [4]) (by kernel_rfl) (by simp) ?_
              refine (Until.AllU.cons (o := { dst := some 92, op := Op.buildSlice 22 1 #[(0, Operand.tmp 91)], type := 22, pos := "law.go:79", after := #[{ on := 3, ground := Ground.data }], guard := none }) rfl (fun K hK => ?_) Until.AllU.nil)
              go_simp
              have hIa := hid_e (hI2.out.below ((Below.refl _ w3).alloc (Nat.le_refl _) (.cells #[.string (dig p)] 9)))
              have d5 := hIa.out.box
              have hsrc : Src Tryz.prog 1 22 (.slice (some ⟨w3.heap.size, 0, none⟩) 1 1) 1 [.string (dig p)] (w3.alloc (.cells #[.string (dig p)] 9)) := Src.of_block Tryz.underlying22 (heap_alloc_new w3 (.cells #[.string (dig p)] 9)) 1 1 rfl (one_string _)
              obtain ⟨ys, hz, hF⟩ := hIa.out.gr.nl.new
              refine hK.out _ _ (trivial) (fun _ => d5) ?_
              clear hK K
              try simp only [Act.put, List.setIfInBounds_toArray, List.set_cons_zero, List.set_cons_succ]
              refine Until.wpU_ready (rs := [5]) (by kernel_rfl) (by simp) ?_
              refine (Until.AllU.cons (o := { dst := some 93, op := Op.call { callee := Callee.builtin Builtin.append, args := #[Operand.tmp 89, Operand.tmp 92], argTypes := #[22, 22] }, type := 22, pos := "law.go:79", after := #[{ on := 1, ground := Ground.data }, { on := 4, ground := Ground.data }, { on := 3, ground := Ground.chain }], guard := none }) rfl (fun K hK => ?_) Until.AllU.nil)
              refine step_append_rw _ (by rfl) _ _ 22 (by rfl) 9 i9 _ 1 16 Tryz.underlying22 hi9 hy0 hy1 hy2 (by rfl) 0 an (d.n + q) cn ys (by rfl) hz.len hz.le hz.mx hz.rd _ (by rfl) 1 _ hsrc (fun _ => hz) (by decide) (hbn.out q hlt1).1 (hbn.out q hlt1).2 (Nat.zero_le _) ?_
              intro g2 of c2 w4 hA
              obtain ⟨hof, f5, hI3⟩ := In.name hN.out hd.out hWX.out hIa.out hz hF hA
              subst hof
              replace hI3 := hid_e hI3
              refine hK.out _ _ (trivial) (fun _ => f5) ?_
              clear hK K
              try simp only [Act.put, List.setIfInBounds_toArray, List.set_cons_zero, List.set_cons_succ]
              clear hA hz hF hsrc hIa
              refine Until.wpU_pure (i := 6) (oi := { dst := some 94, op := Op.fieldAddr 25 (Operand.tmp 9) 3, type := 0, pos := "law.go:79", after := #[{ on := 0, ground := Ground.phase }, { on := 1, ground := Ground.phase }, { on := 2, ground := Ground.phase }, { on := 3, ground := Ground.phase }, { on := 4, ground := Ground.phase }, { on := 5, ground := Ground.phase }], guard := none }) (v := .pointer (some ⟨bg, 3, none⟩)) rfl (by kernel_rfl) (by kernel_rfl) (by kernel_rfl) (by kernel_rfl) (by kernel_rfl) (fun _ _ _ h => h) (trivial) (fun _ => f5) (by rfl) (by intro w'; go_simp) ?_
              try simp only [Act.put, List.setIfInBounds_toArray, List.set_cons_zero, List.set_cons_succ]
              obtain ⟨-, -, -, z3, -, zf⟩ := row_cells f5
              have zf3 := zf 3
              clear zf
              refine Until.wpU_ready (rs := [7]) (by kernel_rfl) (by simp) ?_
              refine (Until.AllU.cons (o := { dst := none, op := Op.store 22 (Operand.tmp 94) (Operand.tmp 93), type := 0, pos := "law.go:79", after := #[{ on := 6, ground := Ground.data }, { on := 5, ground := Ground.data }, { on := 5, ground := Ground.chain }, { on := 0, ground := Ground.phase }, { on := 1, ground := Ground.phase }, { on := 2, ground := Ground.phase }, { on := 3, ground := Ground.phase }, { on := 4, ground := Ground.phase }, { on := 5, ground := Ground.phase }], guard := none }) rfl (fun K hK => ?_) Until.AllU.nil)
              go_simp
              refine hK.out _ _ (trivial) (fun h => absurd h (by decide)) ?_
              clear hK K
              try simp only [Act.put, List.setIfInBounds_toArray, List.set_cons_zero, List.set_cons_succ]
              refine Until.wpU_done (by kernel_rfl) ?_ _
              refine NoPanic.normal ?_
              clear z3 zf3 f5 d5 c5 hI2
              go_wp2_with fail
              go_roundw
              case rel => exact ⟨q + 1, _, _, _, _, by omega, by go_num, hI3⟩
              case measure => simp [intOf]; omega
            · obtain rfl : q = 16 := by omega
              clear hq hlt1
              have hz := hid_e (hB.out.grow_row hN.out hd.out hI.out (.cells #[.int .i64 0, .int .i64 0, .string ⟨#[]⟩, .slice an (d.n + 16) cn, .slice ai (d.m + 16) ci] 25))
              have hsrc : Src Tryz.prog 5 23 (.slice (some ⟨wr.heap.size, 0, none⟩) 1 1) 1 [.int .i64 0, .int .i64 0, .string ⟨#[]⟩, .slice an (d.n + 16) cn, .slice ai (d.m + 16) ci] (wr.alloc (.cells #[.int .i64 0, .int .i64 0, .string ⟨#[]⟩, .slice an (d.n + 16) cn, .slice ai (d.m + 16) ci] 25)) := Src.of_block Tryz.underlying23 (heap_alloc_new wr (.cells #[.int .i64 0, .int .i64 0, .string ⟨#[]⟩, .slice an (d.n + 16) cn, .slice ai (d.m + 16) ci] 25)) 1 1 rfl (five_one 0 0 ⟨#[]⟩ _ _ _ _ _ _)
              replace hsrc := hid_e hsrc
              have hWr : Hid (w.heap.size ≤ (wr.alloc (.cells #[.int .i64 0, .int .i64 0, .string ⟨#[]⟩, .slice an (d.n + 16) cn, .slice ai (d.m + 16) ci] 25)).heap.size) := by have := hWX.out; have := hI.out.fr.size; rw [World.size_alloc]; show _ ≤ _; omega
              skip
              go_wp2_with (at_builtin; refine wpList_append_rw _ rfl _ _ 23 rfl 25 iV _ 5 80 Tryz.underlying23 hiV hv0 hv1 hv2 rfl w.heap.size ga p gc cells rfl hz.out.len hz.out.le hz.out.mx hz.out.rd _ rfl 1 _ hsrc.out (fun _ => hz.out) (by decide) hbp.out.1 hbp.out.2 hWr.out ?_; intro g of c' w2 hA; obtain ⟨hof, hB2⟩ := Bo.round hN.out hd.out hB.out hI.out _ hA; subst hof; replace hB2 := hid_e hB2; clear hA hz hsrc hI hB t0 t1 t2 y3 y4)
              go_roundw
              case rel => exact ⟨p + 1, _, _, _, by omega, by go_num, rfl, hB2⟩
              case measure => simp [intOf]; omega
        · obtain rfl : p = i := by omega
          clear hp hlt
          go_wp2_with fail
          obtain ⟨gg, hgg⟩ := hB.out.gz.resolve_left (by obtain ⟨b, o, e⟩ := hB.out.g.addr hpos.out; rw [e]; simp)
          subst hgg
          generalize wr = Y at hB ⊢
          go_loopw [11] (fun iv wr => ∃ q : Nat, q ≤ p ∧ iv = .int .i64 q ∧ Hid (Below Y.heap.size Y wr)) (fun iv _ => p - (intOf iv).toNat)
          case atStart => exact ⟨0, Nat.zero_le _, rfl, hid_e (Below.refl _ _)⟩
          case round =>
            obtain ⟨q, hq, rfl, hb⟩ := hrel
            by_cases hlt : q < p
            · have i1 : (q : Int) < (p : Int) := by omega
              obtain ⟨d, hd⟩ : ∃ d, Hid (nds[q]? = some d) := ⟨_, List.getElem?_eq_getElem (by rw [hNe.out]; exact hlt)⟩
              have hi63 : Hid ((q : Int) ≤ 9223372036854775807 ∧ -9223372036854775808 ≤ (q : Int)) := by show _ ∧ _; omega
              obtain ⟨hdm1, hdm2⟩ := hN.out.sm q d hd.out
              obtain ⟨an, cn, ai, ci, l1, l2, l3, -⟩ := hB.out.lo q d hd.out hlt
              have e3 := hid_e (rw_cell hB.out.g l1)
              have e4 := hid_e (rw_cell hB.out.g l2)
              have y3 := hid_e (rw_cell hB.out.row ((flatN_at hd.out 3 (by decide)).trans (show _ = some (.slice d.an d.n d.cn) from rfl)))
              have y4 := hid_e (rw_cell hB.out.row ((flatN_at hd.out 4 (by decide)).trans (show _ = some (.slice d.ai d.m d.ci) from rfl)))
              obtain ⟨a1, a2⟩ := l3.itemAt hN.out hd.out
              obtain ⟨a3, a4⟩ := l3.nameAt hN.out hd.out
              replace a1 := hid_e a1
              replace a2 := hid_e a2
              replace a3 := hid_e a3
              replace a4 := hid_e a4
              clear l1 l2 l3
              obtain ⟨M, hM⟩ : ∃ M, d.m + 16 = M := ⟨_, rfl⟩
              obtain ⟨L, hL⟩ : ∃ L, d.n + 16 = L := ⟨_, rfl⟩
              rw [hM] at e4 a1 hdm2
              rw [hL] at e3 a3 hdm1
              clear hM hL
              go_wp2_with fail
              go_loopw [12] (fun iv wr => ∃ k1 : Nat, k1 ≤ M ∧ iv = .int .i64 k1 ∧ Hid (Below Y.heap.size Y wr)) (fun iv _ => M - (intOf iv).toNat)
              case atStart => exact ⟨0, Nat.zero_le _, rfl, hb⟩
              case round =>
                clear hb
                obtain ⟨k1, hk1, rfl, hb⟩ := hrel
                have t4 := stay hb.out e4.out
                by_cases hlt1 : k1 < M
                · have i2 : (k1 : Int) < (M : Int) := by omega
                  obtain ⟨b, hbe, c1⟩ := a1.out k1 hlt1
                  rw [hbe] at t4
                  replace c1 := stay hb.out c1
                  have t5 := stay hb.out y4.out
                  replace hbe := hid_e hbe
                  by_cases hlt2 : k1 < d.m
                  · have i3 : (k1 : Int) < (d.m : Int) := by omega
                    obtain ⟨b2, hbe2, c2⟩ := a2.out k1 hlt2
                    rw [hbe2] at t5
                    replace c2 := stay hb.out c2
                    replace hbe2 := hid_e hbe2
                    go_wp2_with fail
                    clear t4 t5 c1 c2
                    go_roundw
                    case rel => exact ⟨k1 + 1, by omega, by go_num, hb⟩
                    case measure => simp [intOf]; omega
                  · have i3 : ¬ (k1 : Int) < (d.m : Int) := by omega
                    go_wp2_with fail
                    clear t4 t5 c1
                    go_roundw
                    case rel => exact ⟨k1 + 1, by omega, by go_num, hb⟩
                    case measure => simp [intOf]; omega
                · obtain rfl : k1 = M := by omega
                  clear hk1 hlt1
                  go_wp2_with fail
                  clear t4
                  go_loopw [13] (fun iv wr => ∃ k2 : Nat, k2 ≤ L ∧ iv = .int .i64 k2 ∧ Hid (Below Y.heap.size Y wr)) (fun iv _ => L - (intOf iv).toNat)
                  case atStart => exact ⟨0, Nat.zero_le _, rfl, hb⟩
                  case round =>
                    clear hb
                    obtain ⟨k2, hk2, rfl, hb⟩ := hrel
                    have t3 := stay hb.out e3.out
                    by_cases hlt2 : k2 < L
                    · have i2 : (k2 : Int) < (L : Int) := by omega
                      obtain ⟨b, hbe, c1⟩ := a3.out k2 hlt2
                      rw [hbe] at t3
                      replace c1 := stay hb.out c1
                      have t5 := stay hb.out y3.out
                      replace hbe := hid_e hbe
                      go_upto_region 35 with fail
                      by_cases hlt3 : k2 < d.n
                      · have i3 : (k2 : Int) < (d.n : Int) := by omega
                        obtain ⟨b2, hbe2, c2⟩ := a4.out k2 hlt3
                        rw [hbe2] at t5
                        replace c2 := stay hb.out c2
                        replace hbe2 := hid_e hbe2
                        refine wp_region_quiet (C := fun w' => Below wr.heap.size wr w') (by kernel_rfl) (by kernel_rfl) (below_drewN (Below.refl _ _) 1) ?_
                        with_reducible refine wpQuiet_step (fun K hK => ?_)
                        refine ⟨.slice (some ⟨gg, 0, none⟩) p gc, fun w' hw' => ?_, ?_⟩
                        · first | (go_simp; done) | (go_simp; decide) | (go_simp; omega)
                        with_reducible refine hK _ ?_
                        clear hK K
                        simp only [Act.put, List.setIfInBounds_toArray, List.set_cons_zero, List.set_cons_succ]
                        with_reducible refine wpQuiet_step (fun K hK => ?_)
                        refine ⟨.int .i64 q, fun w' hw' => ?_, ?_⟩
                        · first | (go_simp; done) | (go_simp; decide) | (go_simp; omega)
                        with_reducible refine hK _ ?_
                        clear hK K
                        simp only [Act.put, List.setIfInBounds_toArray, List.set_cons_zero, List.set_cons_succ]
                        with_reducible refine wpQuiet_step (fun K hK => ?_)
                        refine ⟨.pointer (some ⟨gg, q * 5, none⟩), fun w' hw' => ?_, ?_⟩
                        · first | (go_simp; done) | (go_simp; decide) | (go_simp; omega)
                        with_reducible refine hK _ ?_
                        clear hK K
                        simp only [Act.put, List.setIfInBounds_toArray, List.set_cons_zero, List.set_cons_succ]
                        with_reducible refine wpQuiet_step (fun K hK => ?_)
                        refine ⟨.pointer (some ⟨gg, q * 5 + 3, none⟩), fun w' hw' => ?_, ?_⟩
                        · first | (go_simp; done) | (go_simp; decide) | (go_simp; omega)
                        with_reducible refine hK _ ?_
                        clear hK K
                        simp only [Act.put, List.setIfInBounds_toArray, List.set_cons_zero, List.set_cons_succ]
                        with_reducible refine wpQuiet_step (fun K hK => ?_)
                        refine ⟨.slice (some ⟨b, 0, none⟩) L cn, fun w' hw' => ?_, ?_⟩
                        · have t0 := stay hw' t3; go_simp
                        with_reducible refine hK _ ?_
                        clear hK K
                        simp only [Act.put, List.setIfInBounds_toArray, List.set_cons_zero, List.set_cons_succ]
                        with_reducible refine wpQuiet_step (fun K hK => ?_)
                        refine ⟨.int .i64 k2, fun w' hw' => ?_, ?_⟩
                        · first | (go_simp; done) | (go_simp; decide) | (go_simp; omega)
                        with_reducible refine hK _ ?_
                        clear hK K
                        simp only [Act.put, List.setIfInBounds_toArray, List.set_cons_zero, List.set_cons_succ]
                        with_reducible refine wpQuiet_step (fun K hK => ?_)
                        refine ⟨.pointer (some ⟨b, k2, none⟩), fun w' hw' => ?_, ?_⟩
                        · first | (go_simp; done) | (go_simp; decide) | (go_simp; omega)
                        with_reducible refine hK _ ?_
                        clear hK K
                        simp only [Act.put, List.setIfInBounds_toArray, List.set_cons_zero, List.set_cons_succ]
                        with_reducible refine wpQuiet_step (fun K hK => ?_)
                        refine ⟨.string (dig q), fun w' hw' => ?_, ?_⟩
                        · have t0 := stay hw' c1; go_simp
                        with_reducible refine hK _ ?_
                        clear hK K
                        simp only [Act.put, List.setIfInBounds_toArray, List.set_cons_zero, List.set_cons_succ]
                        with_reducible refine wpQuiet_step (fun K hK => ?_)
                        refine ⟨.int .i64 q, fun w' hw' => ?_, ?_⟩
                        · first | (go_simp; done) | (go_simp; decide) | (go_simp; omega)
                        with_reducible refine hK _ ?_
                        clear hK K
                        simp only [Act.put, List.setIfInBounds_toArray, List.set_cons_zero, List.set_cons_succ]
                        with_reducible refine wpQuiet_step (fun K hK => ?_)
                        refine ⟨.string (dig q), fun w' hw' => ?_, ?_⟩
                        · go_simp
                          refine (digits_code q hi63.out.2 hi63.out.1 w').mono ?_
                          rintro e w'' ⟨rfl, hb'⟩
                          exact ⟨rfl, hw'.trans (hb'.mono hw'.size)⟩
                        with_reducible refine hK _ ?_
                        clear hK K
                        simp only [Act.put, List.setIfInBounds_toArray, List.set_cons_zero, List.set_cons_succ]
                        with_reducible refine wpQuiet_step (fun K hK => ?_)
                        refine ⟨.bool false, fun w' hw' => ?_, ?_⟩
                        · first | (go_simp; done) | (go_simp; decide) | (go_simp; omega)
                        with_reducible refine hK _ ?_
                        clear hK K
                        simp only [Act.put, List.setIfInBounds_toArray, List.set_cons_zero, List.set_cons_succ]
                        with_reducible refine wpQuiet_step (fun K hK => ?_)
                        refine ⟨.bool false, fun w' hw' => ?_, ?_⟩
                        · first | (go_simp; done) | (go_simp; decide) | (go_simp; omega)
                        with_reducible refine hK _ ?_
                        clear hK K
                        simp only [Act.put, List.setIfInBounds_toArray, List.set_cons_zero, List.set_cons_succ]
                        with_reducible refine wpQuiet_step (fun K hK => ?_)
                        refine k_quiet_if (by kernel_rfl) ?_
                        refine ⟨.int .i64 k2, fun w' hw' => ?_, ?_⟩
                        · first | (go_simp; done) | (go_simp; decide) | (go_simp; omega)
                        with_reducible refine hK _ ?_
                        clear hK K
                        simp only [Act.put, List.setIfInBounds_toArray, List.set_cons_zero, List.set_cons_succ]
                        with_reducible refine wpQuiet_step (fun K hK => ?_)
                        refine k_quiet_if (by kernel_rfl) ?_
                        refine ⟨.slice (some ⟨gl, 0, none⟩) p cl, fun w' hw' => ?_, ?_⟩
                        · first | (go_simp; done) | (go_simp; decide) | (go_simp; omega)
                        with_reducible refine hK _ ?_
                        clear hK K
                        simp only [Act.put, List.setIfInBounds_toArray, List.set_cons_zero, List.set_cons_succ]
                        with_reducible refine wpQuiet_step (fun K hK => ?_)
                        refine k_quiet_if (by kernel_rfl) ?_
                        refine ⟨.int .i64 q, fun w' hw' => ?_, ?_⟩
                        · first | (go_simp; done) | (go_simp; decide) | (go_simp; omega)
                        with_reducible refine hK _ ?_
                        clear hK K
                        simp only [Act.put, List.setIfInBounds_toArray, List.set_cons_zero, List.set_cons_succ]
                        with_reducible refine wpQuiet_step (fun K hK => ?_)
                        refine k_quiet_if (by kernel_rfl) ?_
                        refine ⟨.pointer (some ⟨gl, q * 5, none⟩), fun w' hw' => ?_, ?_⟩
                        · first | (go_simp; done) | (go_simp; decide) | (go_simp; omega)
                        with_reducible refine hK _ ?_
                        clear hK K
                        simp only [Act.put, List.setIfInBounds_toArray, List.set_cons_zero, List.set_cons_succ]
                        with_reducible refine wpQuiet_step (fun K hK => ?_)
                        refine k_quiet_if (by kernel_rfl) ?_
                        refine ⟨.pointer (some ⟨gl, q * 5 + 3, none⟩), fun w' hw' => ?_, ?_⟩
                        · first | (go_simp; done) | (go_simp; decide) | (go_simp; omega)
                        with_reducible refine hK _ ?_
                        clear hK K
                        simp only [Act.put, List.setIfInBounds_toArray, List.set_cons_zero, List.set_cons_succ]
                        with_reducible refine wpQuiet_step (fun K hK => ?_)
                        refine k_quiet_if (by kernel_rfl) ?_
                        refine ⟨.slice (some ⟨b2, 0, none⟩) d.n d.cn, fun w' hw' => ?_, ?_⟩
                        · have t0 := stay hw' t5; go_simp
                        with_reducible refine hK _ ?_
                        clear hK K
                        simp only [Act.put, List.setIfInBounds_toArray, List.set_cons_zero, List.set_cons_succ]
                        with_reducible refine wpQuiet_step (fun K hK => ?_)
                        refine k_quiet_if (by kernel_rfl) ?_
                        refine ⟨.int .i64 d.n, fun w' hw' => ?_, ?_⟩
                        · first | (go_simp; done) | (go_simp; decide) | (go_simp; omega)
                        with_reducible refine hK _ ?_
                        clear hK K
                        simp only [Act.put, List.setIfInBounds_toArray, List.set_cons_zero, List.set_cons_succ]
                        with_reducible refine wpQuiet_step (fun K hK => ?_)
                        refine k_quiet_if (by kernel_rfl) ?_
                        refine ⟨.bool true, fun w' hw' => ?_, ?_⟩
                        · first | (go_simp; done) | (go_simp; decide) | (go_simp; omega)
                        with_reducible refine hK _ ?_
                        clear hK K
                        simp only [Act.put, List.setIfInBounds_toArray, List.set_cons_zero, List.set_cons_succ]
                        with_reducible refine wpQuiet_step (fun K hK => ?_)
                        refine k_quiet_if (by kernel_rfl) ?_
                        refine ⟨.bool true, fun w' hw' => ?_, ?_⟩
                        · first | (go_simp; done) | (go_simp; decide) | (go_simp; omega)
                        with_reducible refine hK _ ?_
                        clear hK K
                        simp only [Act.put, List.setIfInBounds_toArray, List.set_cons_zero, List.set_cons_succ]
                        with_reducible refine wpQuiet_step (fun K hK => ?_)
                        refine k_quiet_if (by kernel_rfl) ?_
                        refine ⟨.slice (some ⟨gl, 0, none⟩) p cl, fun w' hw' => ?_, ?_⟩
                        · first | (go_simp; done) | (go_simp; decide) | (go_simp; omega)
                        with_reducible refine hK _ ?_
                        clear hK K
                        simp only [Act.put, List.setIfInBounds_toArray, List.set_cons_zero, List.set_cons_succ]
                        with_reducible refine wpQuiet_step (fun K hK => ?_)
                        refine k_quiet_if (by kernel_rfl) ?_
                        refine ⟨.int .i64 q, fun w' hw' => ?_, ?_⟩
                        · first | (go_simp; done) | (go_simp; decide) | (go_simp; omega)
                        with_reducible refine hK _ ?_
                        clear hK K
                        simp only [Act.put, List.setIfInBounds_toArray, List.set_cons_zero, List.set_cons_succ]
                        with_reducible refine wpQuiet_step (fun K hK => ?_)
                        refine k_quiet_if (by kernel_rfl) ?_
                        refine ⟨.pointer (some ⟨gl, q * 5, none⟩), fun w' hw' => ?_, ?_⟩
                        · first | (go_simp; done) | (go_simp; decide) | (go_simp; omega)
                        with_reducible refine hK _ ?_
                        clear hK K
                        simp only [Act.put, List.setIfInBounds_toArray, List.set_cons_zero, List.set_cons_succ]
                        with_reducible refine wpQuiet_step (fun K hK => ?_)
                        refine k_quiet_if (by kernel_rfl) ?_
                        refine ⟨.pointer (some ⟨gl, q * 5 + 3, none⟩), fun w' hw' => ?_, ?_⟩
                        · first | (go_simp; done) | (go_simp; decide) | (go_simp; omega)
                        with_reducible refine hK _ ?_
                        clear hK K
                        simp only [Act.put, List.setIfInBounds_toArray, List.set_cons_zero, List.set_cons_succ]
                        with_reducible refine wpQuiet_step (fun K hK => ?_)
                        refine k_quiet_if (by kernel_rfl) ?_
                        refine ⟨.slice (some ⟨b2, 0, none⟩) d.n d.cn, fun w' hw' => ?_, ?_⟩
                        · have t0 := stay hw' t5; go_simp
                        with_reducible refine hK _ ?_
                        clear hK K
                        simp only [Act.put, List.setIfInBounds_toArray, List.set_cons_zero, List.set_cons_succ]
                        with_reducible refine wpQuiet_step (fun K hK => ?_)
                        refine k_quiet_if (by kernel_rfl) ?_
                        refine ⟨.int .i64 k2, fun w' hw' => ?_, ?_⟩
                        · first | (go_simp; done) | (go_simp; decide) | (go_simp; omega)
                        with_reducible refine hK _ ?_
                        clear hK K
                        simp only [Act.put, List.setIfInBounds_toArray, List.set_cons_zero, List.set_cons_succ]
                        with_reducible refine wpQuiet_step (fun K hK => ?_)
                        refine k_quiet_if (by kernel_rfl) ?_
                        refine ⟨.pointer (some ⟨b2, k2, none⟩), fun w' hw' => ?_, ?_⟩
                        · first | (go_simp; done) | (go_simp; decide) | (go_simp; omega)
                        with_reducible refine hK _ ?_
                        clear hK K
                        simp only [Act.put, List.setIfInBounds_toArray, List.set_cons_zero, List.set_cons_succ]
                        with_reducible refine wpQuiet_step (fun K hK => ?_)
                        refine k_quiet_if (by kernel_rfl) ?_
                        refine ⟨.string (dig q), fun w' hw' => ?_, ?_⟩
                        · have t0 := stay hw' c2; go_simp
                        with_reducible refine hK _ ?_
                        clear hK K
                        simp only [Act.put, List.setIfInBounds_toArray, List.set_cons_zero, List.set_cons_succ]
                        with_reducible refine wpQuiet_step (fun K hK => ?_)
                        refine k_quiet_if (by kernel_rfl) ?_
                        refine ⟨.int .i64 q, fun w' hw' => ?_, ?_⟩
                        · first | (go_simp; done) | (go_simp; decide) | (go_simp; omega)
                        with_reducible refine hK _ ?_
                        clear hK K
                        simp only [Act.put, List.setIfInBounds_toArray, List.set_cons_zero, List.set_cons_succ]
                        with_reducible refine wpQuiet_step (fun K hK => ?_)
                        refine k_quiet_if (by kernel_rfl) ?_
                        refine ⟨.string (dig q), fun w' hw' => ?_, ?_⟩
                        · go_simp
                          refine (digits_code q hi63.out.2 hi63.out.1 w').mono ?_
                          rintro e w'' ⟨rfl, hb'⟩
                          exact ⟨rfl, hw'.trans (hb'.mono hw'.size)⟩
                        with_reducible refine hK _ ?_
                        clear hK K
                        simp only [Act.put, List.setIfInBounds_toArray, List.set_cons_zero, List.set_cons_succ]
                        with_reducible refine wpQuiet_step (fun K hK => ?_)
                        refine k_quiet_if (by kernel_rfl) ?_
                        refine ⟨.bool false, fun w' hw' => ?_, ?_⟩
                        · first | (go_simp; done) | (go_simp; decide) | (go_simp; omega)
                        with_reducible refine hK _ ?_
                        clear hK K
                        simp only [Act.put, List.setIfInBounds_toArray, List.set_cons_zero, List.set_cons_succ]
                        with_reducible refine wpQuiet_step (fun K hK => ?_)
                        refine k_quiet_if (by kernel_rfl) ?_
                        refine ⟨.bool false, fun w' hw' => ?_, ?_⟩
                        · first | (go_simp; done) | (go_simp; decide) | (go_simp; omega)
                        with_reducible refine hK _ ?_
                        clear hK K
                        simp only [Act.put, List.setIfInBounds_toArray, List.set_cons_zero, List.set_cons_succ]
                        with_reducible refine wpQuiet_step (fun K hK => ?_)
                        refine ⟨.bool false, fun w' hw' => ?_, ?_⟩
                        · first | (go_simp; done) | (go_simp; decide) | (go_simp; omega)
                        with_reducible refine hK _ ?_
                        clear hK K
                        simp only [Act.put, List.setIfInBounds_toArray, List.set_cons_zero, List.set_cons_succ]
                        refine wpQuiet_nil ?_
                        intro X1 hX1
                        clear t3 t5 c1 c2
                        have hb3 := hid_e (hb.out.trans (hX1.mono hb.out.size))
                        go_wp2_with fail
                        go_roundw
                        case rel => exact ⟨k2 + 1, by omega, by go_num, hb3⟩
                        case measure => simp [intOf]; omega
                      · have i3 : ¬ (k2 : Int) < (d.n : Int) := by omega
                        refine wp_region_quiet (C := fun w' => Below wr.heap.size wr w') (by kernel_rfl) (by kernel_rfl) (below_drewN (Below.refl _ _) 1) ?_
                        with_reducible refine wpQuiet_step (fun K hK => ?_)
                        refine ⟨.slice (some ⟨gg, 0, none⟩) p gc, fun w' hw' => ?_, ?_⟩
                        · first | (go_simp; done) | (go_simp; decide) | (go_simp; omega)
                        with_reducible refine hK _ ?_
                        clear hK K
                        simp only [Act.put, List.setIfInBounds_toArray, List.set_cons_zero, List.set_cons_succ]
                        with_reducible refine wpQuiet_step (fun K hK => ?_)
                        refine ⟨.int .i64 q, fun w' hw' => ?_, ?_⟩
                        · first | (go_simp; done) | (go_simp; decide) | (go_simp; omega)
                        with_reducible refine hK _ ?_
                        clear hK K
                        simp only [Act.put, List.setIfInBounds_toArray, List.set_cons_zero, List.set_cons_succ]
                        with_reducible refine wpQuiet_step (fun K hK => ?_)
                        refine ⟨.pointer (some ⟨gg, q * 5, none⟩), fun w' hw' => ?_, ?_⟩
                        · first | (go_simp; done) | (go_simp; decide) | (go_simp; omega)
                        with_reducible refine hK _ ?_
                        clear hK K
                        simp only [Act.put, List.setIfInBounds_toArray, List.set_cons_zero, List.set_cons_succ]
                        with_reducible refine wpQuiet_step (fun K hK => ?_)
                        refine ⟨.pointer (some ⟨gg, q * 5 + 3, none⟩), fun w' hw' => ?_, ?_⟩
                        · first | (go_simp; done) | (go_simp; decide) | (go_simp; omega)
                        with_reducible refine hK _ ?_
                        clear hK K
                        simp only [Act.put, List.setIfInBounds_toArray, List.set_cons_zero, List.set_cons_succ]
                        with_reducible refine wpQuiet_step (fun K hK => ?_)
                        refine ⟨.slice (some ⟨b, 0, none⟩) L cn, fun w' hw' => ?_, ?_⟩
                        · have t0 := stay hw' t3; go_simp
                        with_reducible refine hK _ ?_
                        clear hK K
                        simp only [Act.put, List.setIfInBounds_toArray, List.set_cons_zero, List.set_cons_succ]
                        with_reducible refine wpQuiet_step (fun K hK => ?_)
                        refine ⟨.int .i64 k2, fun w' hw' => ?_, ?_⟩
                        · first | (go_simp; done) | (go_simp; decide) | (go_simp; omega)
                        with_reducible refine hK _ ?_
                        clear hK K
                        simp only [Act.put, List.setIfInBounds_toArray, List.set_cons_zero, List.set_cons_succ]
                        with_reducible refine wpQuiet_step (fun K hK => ?_)
                        refine ⟨.pointer (some ⟨b, k2, none⟩), fun w' hw' => ?_, ?_⟩
                        · first | (go_simp; done) | (go_simp; decide) | (go_simp; omega)
                        with_reducible refine hK _ ?_
                        clear hK K
                        simp only [Act.put, List.setIfInBounds_toArray, List.set_cons_zero, List.set_cons_succ]
                        with_reducible refine wpQuiet_step (fun K hK => ?_)
                        refine ⟨.string (dig q), fun w' hw' => ?_, ?_⟩
                        · have t0 := stay hw' c1; go_simp
                        with_reducible refine hK _ ?_
                        clear hK K
                        simp only [Act.put, List.setIfInBounds_toArray, List.set_cons_zero, List.set_cons_succ]
                        with_reducible refine wpQuiet_step (fun K hK => ?_)
                        refine ⟨.int .i64 q, fun w' hw' => ?_, ?_⟩
                        · first | (go_simp; done) | (go_simp; decide) | (go_simp; omega)
                        with_reducible refine hK _ ?_
                        clear hK K
                        simp only [Act.put, List.setIfInBounds_toArray, List.set_cons_zero, List.set_cons_succ]
                        with_reducible refine wpQuiet_step (fun K hK => ?_)
                        refine ⟨.string (dig q), fun w' hw' => ?_, ?_⟩
                        · go_simp
                          refine (digits_code q hi63.out.2 hi63.out.1 w').mono ?_
                          rintro e w'' ⟨rfl, hb'⟩
                          exact ⟨rfl, hw'.trans (hb'.mono hw'.size)⟩
                        with_reducible refine hK _ ?_
                        clear hK K
                        simp only [Act.put, List.setIfInBounds_toArray, List.set_cons_zero, List.set_cons_succ]
                        with_reducible refine wpQuiet_step (fun K hK => ?_)
                        refine ⟨.bool false, fun w' hw' => ?_, ?_⟩
                        · first | (go_simp; done) | (go_simp; decide) | (go_simp; omega)
                        with_reducible refine hK _ ?_
                        clear hK K
                        simp only [Act.put, List.setIfInBounds_toArray, List.set_cons_zero, List.set_cons_succ]
                        with_reducible refine wpQuiet_step (fun K hK => ?_)
                        refine ⟨.bool false, fun w' hw' => ?_, ?_⟩
                        · first | (go_simp; done) | (go_simp; decide) | (go_simp; omega)
                        with_reducible refine hK _ ?_
                        clear hK K
                        simp only [Act.put, List.setIfInBounds_toArray, List.set_cons_zero, List.set_cons_succ]
                        with_reducible refine wpQuiet_step (fun K hK => ?_)
                        refine k_quiet_if (by kernel_rfl) ?_
                        refine ⟨.int .i64 k2, fun w' hw' => ?_, ?_⟩
                        · first | (go_simp; done) | (go_simp; decide) | (go_simp; omega)
                        with_reducible refine hK _ ?_
                        clear hK K
                        simp only [Act.put, List.setIfInBounds_toArray, List.set_cons_zero, List.set_cons_succ]
                        with_reducible refine wpQuiet_step (fun K hK => ?_)
                        refine k_quiet_if (by kernel_rfl) ?_
                        refine ⟨.slice (some ⟨gl, 0, none⟩) p cl, fun w' hw' => ?_, ?_⟩
                        · first | (go_simp; done) | (go_simp; decide) | (go_simp; omega)
                        with_reducible refine hK _ ?_
                        clear hK K
                        simp only [Act.put, List.setIfInBounds_toArray, List.set_cons_zero, List.set_cons_succ]
                        with_reducible refine wpQuiet_step (fun K hK => ?_)
                        refine k_quiet_if (by kernel_rfl) ?_
                        refine ⟨.int .i64 q, fun w' hw' => ?_, ?_⟩
                        · first | (go_simp; done) | (go_simp; decide) | (go_simp; omega)
                        with_reducible refine hK _ ?_
                        clear hK K
                        simp only [Act.put, List.setIfInBounds_toArray, List.set_cons_zero, List.set_cons_succ]
                        with_reducible refine wpQuiet_step (fun K hK => ?_)
                        refine k_quiet_if (by kernel_rfl) ?_
                        refine ⟨.pointer (some ⟨gl, q * 5, none⟩), fun w' hw' => ?_, ?_⟩
                        · first | (go_simp; done) | (go_simp; decide) | (go_simp; omega)
                        with_reducible refine hK _ ?_
                        clear hK K
                        simp only [Act.put, List.setIfInBounds_toArray, List.set_cons_zero, List.set_cons_succ]
                        with_reducible refine wpQuiet_step (fun K hK => ?_)
                        refine k_quiet_if (by kernel_rfl) ?_
                        refine ⟨.pointer (some ⟨gl, q * 5 + 3, none⟩), fun w' hw' => ?_, ?_⟩
                        · first | (go_simp; done) | (go_simp; decide) | (go_simp; omega)
                        with_reducible refine hK _ ?_
                        clear hK K
                        simp only [Act.put, List.setIfInBounds_toArray, List.set_cons_zero, List.set_cons_succ]
                        with_reducible refine wpQuiet_step (fun K hK => ?_)
                        refine k_quiet_if (by kernel_rfl) ?_
                        refine ⟨.slice d.an d.n d.cn, fun w' hw' => ?_, ?_⟩
                        · have t0 := stay hw' t5; go_simp
                        with_reducible refine hK _ ?_
                        clear hK K
                        simp only [Act.put, List.setIfInBounds_toArray, List.set_cons_zero, List.set_cons_succ]
                        with_reducible refine wpQuiet_step (fun K hK => ?_)
                        refine k_quiet_if (by kernel_rfl) ?_
                        refine ⟨.int .i64 d.n, fun w' hw' => ?_, ?_⟩
                        · first | (go_simp; done) | (go_simp; decide) | (go_simp; omega)
                        with_reducible refine hK _ ?_
                        clear hK K
                        simp only [Act.put, List.setIfInBounds_toArray, List.set_cons_zero, List.set_cons_succ]
                        with_reducible refine wpQuiet_step (fun K hK => ?_)
                        refine k_quiet_if (by kernel_rfl) ?_
                        refine ⟨.bool false, fun w' hw' => ?_, ?_⟩
                        · first | (go_simp; done) | (go_simp; decide) | (go_simp; omega)
                        with_reducible refine hK _ ?_
                        clear hK K
                        simp only [Act.put, List.setIfInBounds_toArray, List.set_cons_zero, List.set_cons_succ]
                        with_reducible refine wpQuiet_step (fun K hK => ?_)
                        refine k_quiet_if (by kernel_rfl) ?_
                        refine ⟨.bool false, fun w' hw' => ?_, ?_⟩
                        · first | (go_simp; done) | (go_simp; decide) | (go_simp; omega)
                        with_reducible refine hK _ ?_
                        clear hK K
                        simp only [Act.put, List.setIfInBounds_toArray, List.set_cons_zero, List.set_cons_succ]
                        with_reducible refine wpQuiet_step (fun K hK => ?_)
                        refine k_quiet_else (by kernel_rfl) ?_
                        with_reducible refine hK _ ?_
                        clear hK K
                        simp only [Act.put, List.setIfInBounds_toArray, List.set_cons_zero, List.set_cons_succ]
                        with_reducible refine wpQuiet_step (fun K hK => ?_)
                        refine k_quiet_else (by kernel_rfl) ?_
                        with_reducible refine hK _ ?_
                        clear hK K
                        simp only [Act.put, List.setIfInBounds_toArray, List.set_cons_zero, List.set_cons_succ]
                        with_reducible refine wpQuiet_step (fun K hK => ?_)
                        refine k_quiet_else (by kernel_rfl) ?_
                        with_reducible refine hK _ ?_
                        clear hK K
                        simp only [Act.put, List.setIfInBounds_toArray, List.set_cons_zero, List.set_cons_succ]
                        with_reducible refine wpQuiet_step (fun K hK => ?_)
                        refine k_quiet_else (by kernel_rfl) ?_
                        with_reducible refine hK _ ?_
                        clear hK K
                        simp only [Act.put, List.setIfInBounds_toArray, List.set_cons_zero, List.set_cons_succ]
                        with_reducible refine wpQuiet_step (fun K hK => ?_)
                        refine k_quiet_else (by kernel_rfl) ?_
                        with_reducible refine hK _ ?_
                        clear hK K
                        simp only [Act.put, List.setIfInBounds_toArray, List.set_cons_zero, List.set_cons_succ]
                        with_reducible refine wpQuiet_step (fun K hK => ?_)
                        refine k_quiet_else (by kernel_rfl) ?_
                        with_reducible refine hK _ ?_
                        clear hK K
                        simp only [Act.put, List.setIfInBounds_toArray, List.set_cons_zero, List.set_cons_succ]
                        with_reducible refine wpQuiet_step (fun K hK => ?_)
                        refine k_quiet_else (by kernel_rfl) ?_
                        with_reducible refine hK _ ?_
                        clear hK K
                        simp only [Act.put, List.setIfInBounds_toArray, List.set_cons_zero, List.set_cons_succ]
                        with_reducible refine wpQuiet_step (fun K hK => ?_)
                        refine k_quiet_else (by kernel_rfl) ?_
                        with_reducible refine hK _ ?_
                        clear hK K
                        simp only [Act.put, List.setIfInBounds_toArray, List.set_cons_zero, List.set_cons_succ]
                        with_reducible refine wpQuiet_step (fun K hK => ?_)
                        refine k_quiet_else (by kernel_rfl) ?_
                        with_reducible refine hK _ ?_
                        clear hK K
                        simp only [Act.put, List.setIfInBounds_toArray, List.set_cons_zero, List.set_cons_succ]
                        with_reducible refine wpQuiet_step (fun K hK => ?_)
                        refine k_quiet_else (by kernel_rfl) ?_
                        with_reducible refine hK _ ?_
                        clear hK K
                        simp only [Act.put, List.setIfInBounds_toArray, List.set_cons_zero, List.set_cons_succ]
                        with_reducible refine wpQuiet_step (fun K hK => ?_)
                        refine k_quiet_else (by kernel_rfl) ?_
                        with_reducible refine hK _ ?_
                        clear hK K
                        simp only [Act.put, List.setIfInBounds_toArray, List.set_cons_zero, List.set_cons_succ]
                        with_reducible refine wpQuiet_step (fun K hK => ?_)
                        refine k_quiet_if (by kernel_rfl) ?_
                        refine ⟨.bool false, fun w' hw' => ?_, ?_⟩
                        · first | (go_simp; done) | (go_simp; decide) | (go_simp; omega)
                        with_reducible refine hK _ ?_
                        clear hK K
                        simp only [Act.put, List.setIfInBounds_toArray, List.set_cons_zero, List.set_cons_succ]
                        with_reducible refine wpQuiet_step (fun K hK => ?_)
                        refine ⟨.bool false, fun w' hw' => ?_, ?_⟩
                        · first | (go_simp; done) | (go_simp; decide) | (go_simp; omega)
                        with_reducible refine hK _ ?_
                        clear hK K
                        simp only [Act.put, List.setIfInBounds_toArray, List.set_cons_zero, List.set_cons_succ]
                        refine wpQuiet_nil ?_
                        intro X1 hX1
                        clear t3 t5 c1
                        have hb3 := hid_e (hb.out.trans (hX1.mono hb.out.size))
                        go_wp2_with fail
                        go_roundw
                        case rel => exact ⟨k2 + 1, by omega, by go_num, hb3⟩
                        case measure => simp [intOf]; omega
                    · obtain rfl : k2 = L := by omega
                      clear hk2 hlt2
                      go_wp2_with fail
                      clear t3
                      go_roundw
                      case rel => exact ⟨q + 1, by omega, by go_num, hb⟩
                      case measure => simp [intOf]; omega
            · obtain rfl : q = p := by omega
              clear hq hlt
              go_wp2_with fail
              go_ret
              exact ⟨rfl, hB.out.fr.next (Fr.of_below (S := fun _ => False) hb.out) (fun _ e => e.elim)⟩
end Go.Proofs.YtnccaidlcaeeaaaGreatDoor.Tree
