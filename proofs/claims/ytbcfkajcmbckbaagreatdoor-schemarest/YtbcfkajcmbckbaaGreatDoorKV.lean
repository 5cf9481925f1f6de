import Derived.Test.YtbcfkajcmbckbaaGreatDoorKR
import Derived.Test.YtbcfkajcmbckbaaGreatDoorKP
import Derived.Test.YtbcfkajcmbckbaaGreatDoorTJ
/-! schema: what every schema keeps. -/
namespace Go.Proofs.YtbcfkajcmbckbaaGreatDoor
open Go Go.RowKit

theorem keeps_all (w0 : World) (t : Tr) (hg : Good t) (hn : NamesT t) (hs : SmallT t) : KeepsOk w0 t := keepsOk req_ok chrOk w0 t hg hn hs
end Go.Proofs.YtbcfkajcmbckbaaGreatDoor
/-! schema: a place; what seeking tells. -/
namespace Go.Proofs.YtbcfkajcmbckbaaGreatDoor
open Go Go.RowKit

/-- Where a value stands: n steps up to the whole. -/
def PlcAt (w : World) : Nat → Value → Prop
  | 0, v => v = .pointer none
  | n + 1, v => ∃ b s up, v = .pointer (some ⟨b, 0, none⟩) ∧ w.heap[b]? = some (.cells #[up, .string s] 95 (0, 0)) ∧ PlcAt w n up
theorem PlcAt.keep {w w' : World} (hb : Below w.heap.size w w') : (n : Nat) → (v : Value) → PlcAt w n v → PlcAt w' n v
  | 0, _, h => h
  | n + 1, _, ⟨b, s, up, h1, h2, h4⟩ => ⟨b, s, up, h1, block_keep h2 hb, PlcAt.keep hb n up h4⟩
theorem PlcAt.ptr {w : World} : {n : Nat} → {v : Value} → PlcAt w n v → ∃ o : Option Nat, v = .pointer (o.map fun b => ⟨b, 0, none⟩)
  | 0, _, h => ⟨none, h⟩
  | _ + 1, _, ⟨b, _, _, h, _⟩ => ⟨some b, h⟩
/-- What seeking in a value leads to: nothing where it keeps the schema; where not, a panic that tells where and what. -/
def SeekZ (z : Bool) (w : World) (e : Ending) (w' : World) : Prop := Below w.heap.size w w' ∧ ((z = true ∧ e = .returned (.tuple #[])) ∨ (z = false ∧ ∃ n pv s, n ≤ 8 ∧ e = .panicked (breachC pv s) ∧ PlcAt w' n pv))
/-- A rule that is sought in a value says z. -/
def RS (w : World) (u : V5) (pv : Value) (r : Value) (z : Bool) : Prop := ∃ v,
  let Q := fun (F : Nat) => Calls Tryz.prog F #[v, u.v] w fun e w' => e = .returned (.bool z) ∧ Below w.heap.size w w'
  let S := fun (F : Nat) => Calls Tryz.prog F #[v, u.v, pv] w (SeekZ z w)
  (r = .iface 102 v ∧ Q 92) ∨ (r = .iface 103 v ∧ Q 93) ∨ (r = .iface 106 v ∧ Q 100) ∨
  (r = .iface 112 v ∧ S 103) ∨ (r = .iface 114 v ∧ Q 114) ∨ (r = .iface 117 v ∧ S 116) ∨
  (r = .iface 119 v ∧ Q 134) ∨ (r = .iface 120 v ∧ Q 136) ∨ (r = .iface 121 v ∧ Q 137) ∨
  (r = .iface 122 v ∧ Q 138) ∨ (r = .iface 123 v ∧ Q 142) ∨ (r = .iface 124 v ∧ Q 146)
theorem as_items (v : Value) (xT : TypeId) (w : World) : (Instr.typeAssert (.iface 117 v) xT 92 true).run Tryz.prog w = .ok (.tuple #[.iface 117 v, .bool true]) w := run_typeAssert_hasB Tryz.underlying92 (by kernel_rfl) v xT w
theorem no_types (v : Value) (xT : TypeId) (w : World) : (Instr.typeAssert (.iface 102 v) xT 92 true).run Tryz.prog w = .ok (.tuple #[.nilIface, .bool false]) w := run_typeAssert_lacksB Tryz.underlying92 (by kernel_rfl) (by kernel_rfl) v xT w
theorem no_enum (v : Value) (xT : TypeId) (w : World) : (Instr.typeAssert (.iface 103 v) xT 92 true).run Tryz.prog w = .ok (.tuple #[.nilIface, .bool false]) w := run_typeAssert_lacksB Tryz.underlying92 (by kernel_rfl) (by kernel_rfl) v xT w
theorem no_required (v : Value) (xT : TypeId) (w : World) : (Instr.typeAssert (.iface 106 v) xT 92 true).run Tryz.prog w = .ok (.tuple #[.nilIface, .bool false]) w := run_typeAssert_lacksB Tryz.underlying92 (by kernel_rfl) (by kernel_rfl) v xT w
theorem no_additional (v : Value) (xT : TypeId) (w : World) : (Instr.typeAssert (.iface 114 v) xT 92 true).run Tryz.prog w = .ok (.tuple #[.nilIface, .bool false]) w := run_typeAssert_lacksB Tryz.underlying92 (by kernel_rfl) (by kernel_rfl) v xT w
theorem no_itemsOf (v : Value) (xT : TypeId) (w : World) : (Instr.typeAssert (.iface 119 v) xT 92 true).run Tryz.prog w = .ok (.tuple #[.nilIface, .bool false]) w := run_typeAssert_lacksB Tryz.underlying92 (by kernel_rfl) (by kernel_rfl) v xT w
theorem no_charactersOf (v : Value) (xT : TypeId) (w : World) : (Instr.typeAssert (.iface 120 v) xT 92 true).run Tryz.prog w = .ok (.tuple #[.nilIface, .bool false]) w := run_typeAssert_lacksB Tryz.underlying92 (by kernel_rfl) (by kernel_rfl) v xT w
theorem no_anyOf (v : Value) (xT : TypeId) (w : World) : (Instr.typeAssert (.iface 122 v) xT 92 true).run Tryz.prog w = .ok (.tuple #[.nilIface, .bool false]) w := run_typeAssert_lacksB Tryz.underlying92 (by kernel_rfl) (by kernel_rfl) v xT w
theorem no_allOf (v : Value) (xT : TypeId) (w : World) : (Instr.typeAssert (.iface 123 v) xT 92 true).run Tryz.prog w = .ok (.tuple #[.nilIface, .bool false]) w := run_typeAssert_lacksB Tryz.underlying92 (by kernel_rfl) (by kernel_rfl) v xT w
theorem no_not (v : Value) (xT : TypeId) (w : World) : (Instr.typeAssert (.iface 124 v) xT 92 true).run Tryz.prog w = .ok (.tuple #[.nilIface, .bool false]) w := run_typeAssert_lacksB Tryz.underlying92 (by kernel_rfl) (by kernel_rfl) v xT w
end Go.Proofs.YtbcfkajcmbckbaaGreatDoor
/-! schema: a schema's rules are sought in a value. -/
namespace Go.Proofs.YtbcfkajcmbckbaaGreatDoor
open Go Go.RowKit

theorem SeekZ.from {z : Bool} {w x : World} {e : Ending} {w' : World} (h : SeekZ z x e w') (hb : Below w.heap.size w x) : SeekZ z w e w' := ⟨hb.trans (h.1.mono hb.size), h.2⟩
set_option maxHeartbeats 8000000 in
set_option maxRecDepth 100000 in
theorem rules_seek (l : Nat) (a : Option Addr) (c : Nat) (u : V5) (n : Nat) (o : Option Nat) (w : World) (K : Nat → Bool) (hl : l ≤ 1759218604390) (hn : n ≤ 8) (hP : PlcAt w n (.pointer (o.map fun b => ⟨b, 0, none⟩))) (hI : Hid (∀ q, q < l → ∃ b o' s r, a = some ⟨b, o', none⟩ ∧ w.cell? ⟨b, o' + q * 2, none⟩ = some (.string s) ∧ w.cell? ⟨b, o' + q * 2 + 1, none⟩ = some r ∧ (∃ ty v, r = .iface ty v) ∧ ∀ W, Below w.heap.size w W → RS W u (.pointer (o.map fun b => ⟨b, 0, none⟩)) r (K q))) :
    Calls Tryz.prog 24 #[.slice a l c, u.v, .pointer (o.map fun b => ⟨b, 0, none⟩)] w (SeekZ ((List.range l).all K) w) := by
  have hb := hid_of ((Below.refl _ w).alloc (Nat.le_refl _) (u.obj 25))
  obtain ⟨x0, x1, x2, x3, x4, -⟩ := row_cells (heap_alloc_new w (u.obj 25))
  obtain ⟨R, hRR⟩ : ∃ R, Hid ((List.range l).all K = R) := ⟨_, rfl⟩
  rw [hRR.out]
  have h0 : Hid (((List.range l).drop 0).all K = R) := hRR
  have hdr : ∀ q, q < l → Hid (((List.range l).drop q).all K = (K q && ((List.range l).drop (q + 1)).all K)) := fun q hq => by
    rw [Hid, List.drop_eq_getElem_cons (by simpa using hq), List.all_cons]; simp
  obtain ⟨pp, hpp⟩ : ∃ pp : Option Addr, Hid ((o.map fun b => (⟨b, 0, none⟩ : Addr)) = pp) := ⟨_, rfl⟩
  rw [hpp.out] at hP hI ⊢
  replace hP := hid_of hP
  replace hn := hid_of hn
  unfold V5.obj at *
  unfold V5.v
  go_enter Tryz.func24, Tryz.ntmps24
  go_wp2_with fail
  generalize w.alloc (.cells #[.int .i64 u.k, .int .i64 u.x, .string u.s, .slice u.an u.ln u.cn, .slice u.ai u.li u.ci] 25) = X at *
  replace x0 := hid_of x0; replace x1 := hid_of x1; replace x2 := hid_of x2; replace x3 := hid_of x3; replace x4 := hid_of x4
  go_loopw [12] (fun i wr => ∃ q : Nat, q ≤ l ∧ i = .int .i64 q ∧ Hid (Below X.heap.size X wr) ∧ Hid (((List.range l).drop q).all K = R)) (fun i _ => l - (intOf i).toNat)
  case atStart => exact ⟨0, Nat.zero_le _, rfl, Below.refl _ _, h0⟩
  case round =>
    obtain ⟨q, hq, rfl, hBr, hM⟩ := hrel
    have hqb : (q : Int) ≤ 1759218604390 := by omega
    by_cases hlt : q < l
    · obtain ⟨b, o', s, r, ha, m0, m1, ⟨ty, v0, hr0⟩, hrk⟩ := hI.out q hlt
      have hBw := hid_of (hb.out.trans (hBr.out.mono hb.out.size))
      have k0 := stay hBw.out m0
      have k1 := stay hBw.out m1
      have hi : (q : Int) < (l : Int) := by omega
      have hst := hdr q hlt
      have hrk2 := hrk (wr.alloc (.cells #[.string s, r] 90)) (hBw.out.alloc hBw.out.size _)
      have hBY := hid_of (hBr.out.alloc hBr.out.size (.cells #[.string s, r] 90))
      have y0 := stay hBY.out x0.out; have y1 := stay hBY.out x1.out; have y2 := stay hBY.out x2.out; have y3 := stay hBY.out x3.out; have y4 := stay hBY.out x4.out
      have n0 := hid_of (heap_alloc_new wr (.cells #[.string s, r] 90))
      obtain ⟨kn, hkn⟩ : ∃ z, Hid (K q = z) := ⟨_, rfl⟩
      rw [hkn.out] at hst hrk2
      rw [ha]
      clear hrk m0 m1 ha hdr hr0
      obtain ⟨v, hrk2⟩ := hrk2
      simp only at hrk2
      unfold V5.v at hrk2
      rcases hrk2 with ⟨rfl, hc⟩ | ⟨rfl, hc⟩ | ⟨rfl, hc⟩ | ⟨rfl, hc⟩ | ⟨rfl, hc⟩ | ⟨rfl, hc⟩ | ⟨rfl, hc⟩ | ⟨rfl, hc⟩ | ⟨rfl, hc⟩ | ⟨rfl, hc⟩ | ⟨rfl, hc⟩ | ⟨rfl, hc⟩
      · have ta : ∀ w, (Instr.typeAssert (.iface 102 v) 84 92 true).run Tryz.prog w = .ok (.tuple #[.nilIface, .bool false]) w := fun w => no_types _ _ w
        replace hc := hid_of hc
        go_wp2_with fail
        refine hc.out.mono ?_
        rintro e W ⟨rfl, hb2⟩
        have hB2 := hid_of (hBY.out.trans (hb2.mono hBY.out.size))
        have q0 : W.cell? ⟨wr.heap.size, 0, none⟩ = some (.string s) := cell_of (block_keep n0.out hb2) 0
        clear hc hb2 k0 k1 y0 y1 y2 y3 y4 ta n0
        cases kn with
        | true =>
          have hM2 : Hid (((List.range l).drop (q + 1)).all K = R) := by rw [Hid, ← hM.out, hst.out]; simp
          clear q0
          go_wp2_with fail
          go_roundw
          case rel => exact ⟨q + 1, by omega, by go_num, hB2, hM2⟩
          case measure => simp [intOf]; omega
        | false =>
          have hM2 : Hid (R = false) := by rw [Hid, ← hM.out, hst.out]; simp
          have hBB := hid_of (hb.out.trans (hB2.out.mono hb.out.size))
          go_wp2_with fail
          exact ⟨rfl, hBB.out, .inr ⟨hM2.out, n, .pointer pp, s, hn.out, rfl, PlcAt.keep hBB.out n _ hP.out⟩⟩
      · have ta : ∀ w, (Instr.typeAssert (.iface 103 v) 84 92 true).run Tryz.prog w = .ok (.tuple #[.nilIface, .bool false]) w := fun w => no_enum _ _ w
        replace hc := hid_of hc
        go_wp2_with fail
        refine hc.out.mono ?_
        rintro e W ⟨rfl, hb2⟩
        have hB2 := hid_of (hBY.out.trans (hb2.mono hBY.out.size))
        have q0 : W.cell? ⟨wr.heap.size, 0, none⟩ = some (.string s) := cell_of (block_keep n0.out hb2) 0
        clear hc hb2 k0 k1 y0 y1 y2 y3 y4 ta n0
        cases kn with
        | true =>
          have hM2 : Hid (((List.range l).drop (q + 1)).all K = R) := by rw [Hid, ← hM.out, hst.out]; simp
          clear q0
          go_wp2_with fail
          go_roundw
          case rel => exact ⟨q + 1, by omega, by go_num, hB2, hM2⟩
          case measure => simp [intOf]; omega
        | false =>
          have hM2 : Hid (R = false) := by rw [Hid, ← hM.out, hst.out]; simp
          have hBB := hid_of (hb.out.trans (hB2.out.mono hb.out.size))
          go_wp2_with fail
          exact ⟨rfl, hBB.out, .inr ⟨hM2.out, n, .pointer pp, s, hn.out, rfl, PlcAt.keep hBB.out n _ hP.out⟩⟩
      · have ta : ∀ w, (Instr.typeAssert (.iface 106 v) 84 92 true).run Tryz.prog w = .ok (.tuple #[.nilIface, .bool false]) w := fun w => no_required _ _ w
        replace hc := hid_of hc
        go_wp2_with fail
        refine hc.out.mono ?_
        rintro e W ⟨rfl, hb2⟩
        have hB2 := hid_of (hBY.out.trans (hb2.mono hBY.out.size))
        have q0 : W.cell? ⟨wr.heap.size, 0, none⟩ = some (.string s) := cell_of (block_keep n0.out hb2) 0
        clear hc hb2 k0 k1 y0 y1 y2 y3 y4 ta n0
        cases kn with
        | true =>
          have hM2 : Hid (((List.range l).drop (q + 1)).all K = R) := by rw [Hid, ← hM.out, hst.out]; simp
          clear q0
          go_wp2_with fail
          go_roundw
          case rel => exact ⟨q + 1, by omega, by go_num, hB2, hM2⟩
          case measure => simp [intOf]; omega
        | false =>
          have hM2 : Hid (R = false) := by rw [Hid, ← hM.out, hst.out]; simp
          have hBB := hid_of (hb.out.trans (hB2.out.mono hb.out.size))
          go_wp2_with fail
          exact ⟨rfl, hBB.out, .inr ⟨hM2.out, n, .pointer pp, s, hn.out, rfl, PlcAt.keep hBB.out n _ hP.out⟩⟩
      · have ta : ∀ w, (Instr.typeAssert (.iface 112 v) 84 92 true).run Tryz.prog w = .ok (.tuple #[.iface 112 v, .bool true]) w := fun w => as_props _ _ w
        replace hc := hid_of hc
        go_wp2_with fail
        refine hc.out.mono ?_
        rintro e W ⟨hb2, ⟨rfl, rfl⟩ | ⟨rfl, n2, pv2, s2, h8, rfl, hp2⟩⟩
        · have hB2 := hid_of (hBY.out.trans (hb2.mono hBY.out.size))
          have hM2 : Hid (((List.range l).drop (q + 1)).all K = R) := by rw [Hid, ← hM.out, hst.out]; simp
          clear hc hb2 k0 k1 y0 y1 y2 y3 y4 ta n0
          go_wp2_with fail
          go_roundw
          case rel => exact ⟨q + 1, by omega, by go_num, hB2, hM2⟩
          case measure => simp [intOf]; omega
        · have hM2 : R = false := by rw [← hM.out, hst.out]; simp
          have hBB := hb.out.trans ((hBY.out.trans (hb2.mono hBY.out.size)).mono hb.out.size)
          exact ⟨rfl, hBB, .inr ⟨hM2, n2, pv2, s2, h8, rfl, hp2⟩⟩
      · have ta : ∀ w, (Instr.typeAssert (.iface 114 v) 84 92 true).run Tryz.prog w = .ok (.tuple #[.nilIface, .bool false]) w := fun w => no_additional _ _ w
        replace hc := hid_of hc
        go_wp2_with fail
        refine hc.out.mono ?_
        rintro e W ⟨rfl, hb2⟩
        have hB2 := hid_of (hBY.out.trans (hb2.mono hBY.out.size))
        have q0 : W.cell? ⟨wr.heap.size, 0, none⟩ = some (.string s) := cell_of (block_keep n0.out hb2) 0
        clear hc hb2 k0 k1 y0 y1 y2 y3 y4 ta n0
        cases kn with
        | true =>
          have hM2 : Hid (((List.range l).drop (q + 1)).all K = R) := by rw [Hid, ← hM.out, hst.out]; simp
          clear q0
          go_wp2_with fail
          go_roundw
          case rel => exact ⟨q + 1, by omega, by go_num, hB2, hM2⟩
          case measure => simp [intOf]; omega
        | false =>
          have hM2 : Hid (R = false) := by rw [Hid, ← hM.out, hst.out]; simp
          have hBB := hid_of (hb.out.trans (hB2.out.mono hb.out.size))
          go_wp2_with fail
          exact ⟨rfl, hBB.out, .inr ⟨hM2.out, n, .pointer pp, s, hn.out, rfl, PlcAt.keep hBB.out n _ hP.out⟩⟩
      · have ta : ∀ w, (Instr.typeAssert (.iface 117 v) 84 92 true).run Tryz.prog w = .ok (.tuple #[.iface 117 v, .bool true]) w := fun w => as_items _ _ w
        replace hc := hid_of hc
        go_wp2_with fail
        refine hc.out.mono ?_
        rintro e W ⟨hb2, ⟨rfl, rfl⟩ | ⟨rfl, n2, pv2, s2, h8, rfl, hp2⟩⟩
        · have hB2 := hid_of (hBY.out.trans (hb2.mono hBY.out.size))
          have hM2 : Hid (((List.range l).drop (q + 1)).all K = R) := by rw [Hid, ← hM.out, hst.out]; simp
          clear hc hb2 k0 k1 y0 y1 y2 y3 y4 ta n0
          go_wp2_with fail
          go_roundw
          case rel => exact ⟨q + 1, by omega, by go_num, hB2, hM2⟩
          case measure => simp [intOf]; omega
        · have hM2 : R = false := by rw [← hM.out, hst.out]; simp
          have hBB := hb.out.trans ((hBY.out.trans (hb2.mono hBY.out.size)).mono hb.out.size)
          exact ⟨rfl, hBB, .inr ⟨hM2, n2, pv2, s2, h8, rfl, hp2⟩⟩
      · have ta : ∀ w, (Instr.typeAssert (.iface 119 v) 84 92 true).run Tryz.prog w = .ok (.tuple #[.nilIface, .bool false]) w := fun w => no_itemsOf _ _ w
        replace hc := hid_of hc
        go_wp2_with fail
        refine hc.out.mono ?_
        rintro e W ⟨rfl, hb2⟩
        have hB2 := hid_of (hBY.out.trans (hb2.mono hBY.out.size))
        have q0 : W.cell? ⟨wr.heap.size, 0, none⟩ = some (.string s) := cell_of (block_keep n0.out hb2) 0
        clear hc hb2 k0 k1 y0 y1 y2 y3 y4 ta n0
        cases kn with
        | true =>
          have hM2 : Hid (((List.range l).drop (q + 1)).all K = R) := by rw [Hid, ← hM.out, hst.out]; simp
          clear q0
          go_wp2_with fail
          go_roundw
          case rel => exact ⟨q + 1, by omega, by go_num, hB2, hM2⟩
          case measure => simp [intOf]; omega
        | false =>
          have hM2 : Hid (R = false) := by rw [Hid, ← hM.out, hst.out]; simp
          have hBB := hid_of (hb.out.trans (hB2.out.mono hb.out.size))
          go_wp2_with fail
          exact ⟨rfl, hBB.out, .inr ⟨hM2.out, n, .pointer pp, s, hn.out, rfl, PlcAt.keep hBB.out n _ hP.out⟩⟩
      · have ta : ∀ w, (Instr.typeAssert (.iface 120 v) 84 92 true).run Tryz.prog w = .ok (.tuple #[.nilIface, .bool false]) w := fun w => no_charactersOf _ _ w
        replace hc := hid_of hc
        go_wp2_with fail
        refine hc.out.mono ?_
        rintro e W ⟨rfl, hb2⟩
        have hB2 := hid_of (hBY.out.trans (hb2.mono hBY.out.size))
        have q0 : W.cell? ⟨wr.heap.size, 0, none⟩ = some (.string s) := cell_of (block_keep n0.out hb2) 0
        clear hc hb2 k0 k1 y0 y1 y2 y3 y4 ta n0
        cases kn with
        | true =>
          have hM2 : Hid (((List.range l).drop (q + 1)).all K = R) := by rw [Hid, ← hM.out, hst.out]; simp
          clear q0
          go_wp2_with fail
          go_roundw
          case rel => exact ⟨q + 1, by omega, by go_num, hB2, hM2⟩
          case measure => simp [intOf]; omega
        | false =>
          have hM2 : Hid (R = false) := by rw [Hid, ← hM.out, hst.out]; simp
          have hBB := hid_of (hb.out.trans (hB2.out.mono hb.out.size))
          go_wp2_with fail
          exact ⟨rfl, hBB.out, .inr ⟨hM2.out, n, .pointer pp, s, hn.out, rfl, PlcAt.keep hBB.out n _ hP.out⟩⟩
      · have ta : ∀ w, (Instr.typeAssert (.iface 121 v) 84 92 true).run Tryz.prog w = .ok (.tuple #[.nilIface, .bool false]) w := fun w => as_bound _ _ w
        replace hc := hid_of hc
        go_wp2_with fail
        refine hc.out.mono ?_
        rintro e W ⟨rfl, hb2⟩
        have hB2 := hid_of (hBY.out.trans (hb2.mono hBY.out.size))
        have q0 : W.cell? ⟨wr.heap.size, 0, none⟩ = some (.string s) := cell_of (block_keep n0.out hb2) 0
        clear hc hb2 k0 k1 y0 y1 y2 y3 y4 ta n0
        cases kn with
        | true =>
          have hM2 : Hid (((List.range l).drop (q + 1)).all K = R) := by rw [Hid, ← hM.out, hst.out]; simp
          clear q0
          go_wp2_with fail
          go_roundw
          case rel => exact ⟨q + 1, by omega, by go_num, hB2, hM2⟩
          case measure => simp [intOf]; omega
        | false =>
          have hM2 : Hid (R = false) := by rw [Hid, ← hM.out, hst.out]; simp
          have hBB := hid_of (hb.out.trans (hB2.out.mono hb.out.size))
          go_wp2_with fail
          exact ⟨rfl, hBB.out, .inr ⟨hM2.out, n, .pointer pp, s, hn.out, rfl, PlcAt.keep hBB.out n _ hP.out⟩⟩
      · have ta : ∀ w, (Instr.typeAssert (.iface 122 v) 84 92 true).run Tryz.prog w = .ok (.tuple #[.nilIface, .bool false]) w := fun w => no_anyOf _ _ w
        replace hc := hid_of hc
        go_wp2_with fail
        refine hc.out.mono ?_
        rintro e W ⟨rfl, hb2⟩
        have hB2 := hid_of (hBY.out.trans (hb2.mono hBY.out.size))
        have q0 : W.cell? ⟨wr.heap.size, 0, none⟩ = some (.string s) := cell_of (block_keep n0.out hb2) 0
        clear hc hb2 k0 k1 y0 y1 y2 y3 y4 ta n0
        cases kn with
        | true =>
          have hM2 : Hid (((List.range l).drop (q + 1)).all K = R) := by rw [Hid, ← hM.out, hst.out]; simp
          clear q0
          go_wp2_with fail
          go_roundw
          case rel => exact ⟨q + 1, by omega, by go_num, hB2, hM2⟩
          case measure => simp [intOf]; omega
        | false =>
          have hM2 : Hid (R = false) := by rw [Hid, ← hM.out, hst.out]; simp
          have hBB := hid_of (hb.out.trans (hB2.out.mono hb.out.size))
          go_wp2_with fail
          exact ⟨rfl, hBB.out, .inr ⟨hM2.out, n, .pointer pp, s, hn.out, rfl, PlcAt.keep hBB.out n _ hP.out⟩⟩
      · have ta : ∀ w, (Instr.typeAssert (.iface 123 v) 84 92 true).run Tryz.prog w = .ok (.tuple #[.nilIface, .bool false]) w := fun w => no_allOf _ _ w
        replace hc := hid_of hc
        go_wp2_with fail
        refine hc.out.mono ?_
        rintro e W ⟨rfl, hb2⟩
        have hB2 := hid_of (hBY.out.trans (hb2.mono hBY.out.size))
        have q0 : W.cell? ⟨wr.heap.size, 0, none⟩ = some (.string s) := cell_of (block_keep n0.out hb2) 0
        clear hc hb2 k0 k1 y0 y1 y2 y3 y4 ta n0
        cases kn with
        | true =>
          have hM2 : Hid (((List.range l).drop (q + 1)).all K = R) := by rw [Hid, ← hM.out, hst.out]; simp
          clear q0
          go_wp2_with fail
          go_roundw
          case rel => exact ⟨q + 1, by omega, by go_num, hB2, hM2⟩
          case measure => simp [intOf]; omega
        | false =>
          have hM2 : Hid (R = false) := by rw [Hid, ← hM.out, hst.out]; simp
          have hBB := hid_of (hb.out.trans (hB2.out.mono hb.out.size))
          go_wp2_with fail
          exact ⟨rfl, hBB.out, .inr ⟨hM2.out, n, .pointer pp, s, hn.out, rfl, PlcAt.keep hBB.out n _ hP.out⟩⟩
      · have ta : ∀ w, (Instr.typeAssert (.iface 124 v) 84 92 true).run Tryz.prog w = .ok (.tuple #[.nilIface, .bool false]) w := fun w => no_not _ _ w
        replace hc := hid_of hc
        go_wp2_with fail
        refine hc.out.mono ?_
        rintro e W ⟨rfl, hb2⟩
        have hB2 := hid_of (hBY.out.trans (hb2.mono hBY.out.size))
        have q0 : W.cell? ⟨wr.heap.size, 0, none⟩ = some (.string s) := cell_of (block_keep n0.out hb2) 0
        clear hc hb2 k0 k1 y0 y1 y2 y3 y4 ta n0
        cases kn with
        | true =>
          have hM2 : Hid (((List.range l).drop (q + 1)).all K = R) := by rw [Hid, ← hM.out, hst.out]; simp
          clear q0
          go_wp2_with fail
          go_roundw
          case rel => exact ⟨q + 1, by omega, by go_num, hB2, hM2⟩
          case measure => simp [intOf]; omega
        | false =>
          have hM2 : Hid (R = false) := by rw [Hid, ← hM.out, hst.out]; simp
          have hBB := hid_of (hb.out.trans (hB2.out.mono hb.out.size))
          go_wp2_with fail
          exact ⟨rfl, hBB.out, .inr ⟨hM2.out, n, .pointer pp, s, hn.out, rfl, PlcAt.keep hBB.out n _ hP.out⟩⟩
    · have e : (List.range l).drop q = [] := List.drop_eq_nil_of_le (by simp; omega)
      have hi : ¬ (q : Int) < (l : Int) := by omega
      have hM2 : Hid (R = true) := by rw [Hid, ← hM.out, e]; rfl
      clear hlt e
      go_wp2_with fail
      go_end0
      exact ⟨hb.out.trans (hBr.out.mono hb.out.size), .inl ⟨hM2.out, rfl⟩⟩
end Go.Proofs.YtbcfkajcmbckbaaGreatDoor
/-! schema: items are sought in a value. -/
namespace Go.Proofs.YtbcfkajcmbckbaaGreatDoor
open Go Go.RowKit

/-- A number has a text, in every later world. -/
def ItoaIn (w0 : World) : Prop := ∀ (x : Int) (w : World), Below w0.heap.size w0 w → 0 ≤ x → x ≤ 1759218604390 → Calls Tryz.prog 119 #[.int .i64 x] w fun e w' => ∃ s, e = .returned (.string s) ∧ Below w.heap.size w w'
theorem plc_new {w : World} {n : Nat} {v : Value} (s : ByteArray) (h : PlcAt w n v) : PlcAt (w.alloc (.cells #[v, .string s] 95)) (n + 1) (.pointer (some ⟨w.heap.size, 0, none⟩)) :=
  ⟨_, s, v, rfl, heap_alloc_new w _, PlcAt.keep ((Below.refl _ w).alloc (Nat.le_refl _) _) n v h⟩
theorem seekz_true {F : Nat} {vs : Array Value} {w : World} (h : Calls Tryz.prog F vs w (SeekZ true w)) : Calls Tryz.prog F vs w fun e w' => e = .returned (.tuple #[]) ∧ Below w.heap.size w w' :=
  h.mono fun _ _ ⟨hb, h⟩ => ⟨h.elim (fun h => h.2) (fun h => absurd h.1 (by decide)), hb⟩
theorem ItoaIn.later {w0 w : World} (h : ItoaIn w0) (hB : Below w0.heap.size w0 w) : ItoaIn w := fun x W hW => h x W (hB.trans (hW.mono hB.size))
set_option maxHeartbeats 8000000 in
set_option maxRecDepth 100000 in
theorem items_seek (rv : Value) (u : V5) (n : Nat) (o : Option Nat) (w : World) (hIt : ItoaIn w) (K0 : Nat → Bool) (hl : u.li ≤ 1759218604390) (hP : PlcAt w n (.pointer (o.map fun b => ⟨b, 0, none⟩))) (hI : Hid (u.k = 5 → ∀ q, q < u.li → ∃ (b o' : Nat) (v : V5), u.ai = some ⟨b, o', none⟩ ∧ w.cell? ⟨b, o' + q * 5, none⟩ = some (.int .i64 v.k) ∧ w.cell? ⟨b, o' + q * 5 + 1, none⟩ = some (.int .i64 v.x) ∧ w.cell? ⟨b, o' + q * 5 + 2, none⟩ = some (.string v.s) ∧ w.cell? ⟨b, o' + q * 5 + 3, none⟩ = some (.slice v.an v.ln v.cn) ∧ w.cell? ⟨b, o' + q * 5 + 4, none⟩ = some (.slice v.ai v.li v.ci) ∧ ∀ W pb, Below w.heap.size w W → PlcAt W (n + 1) (.pointer (some ⟨pb, 0, none⟩)) → Calls Tryz.prog 24 #[rv, v.v, .pointer (some ⟨pb, 0, none⟩)] W (SeekZ (K0 q) W))) :
    Calls Tryz.prog 116 #[rv, u.v, .pointer (o.map fun b => ⟨b, 0, none⟩)] w (SeekZ (!(u.k == 5) || (List.range u.li).all K0) w) := by
  have hb := hid_of ((Below.refl _ w).alloc (Nat.le_refl _) (u.obj 25))
  obtain ⟨x0, x1, x2, x3, x4, -⟩ := row_cells (heap_alloc_new w (u.obj 25))
  obtain ⟨R, hRR⟩ : ∃ R, Hid ((List.range u.li).all K0 = R) := ⟨_, rfl⟩
  rw [hRR.out]
  have h0 : Hid (((List.range u.li).drop 0).all K0 = R) := hRR
  have hdr : ∀ q, q < u.li → Hid (((List.range u.li).drop q).all K0 = (K0 q && ((List.range u.li).drop (q + 1)).all K0)) := fun q hq => by
    rw [Hid, List.drop_eq_getElem_cons (by simpa using hq), List.all_cons]; simp
  obtain ⟨pp, hpp⟩ : ∃ pp : Option Addr, Hid ((o.map fun b => (⟨b, 0, none⟩ : Addr)) = pp) := ⟨_, rfl⟩
  rw [hpp.out] at hP ⊢
  replace hP := hid_of hP
  have hIt' := hid_of hIt
  clear hIt
  unfold V5.obj at *
  unfold V5.v at *
  go_enter Tryz.func116, Tryz.ntmps116
  by_cases h5 : u.k = 5
  · have hr : Hid ((!(u.k == 5) || R) = R) := by rw [Hid, h5]; simp
    have e5 : (u.k != 5) = false := by simp [h5]
    replace hI := hid_of (hI.out h5)
    replace h5 := hid_of h5
    rw [hr.out]
    go_wp2_with fail
    generalize w.alloc (.cells #[.int .i64 u.k, .int .i64 u.x, .string u.s, .slice u.an u.ln u.cn, .slice u.ai u.li u.ci] 25) = X at *
    replace x0 := hid_of x0; replace x1 := hid_of x1; replace x2 := hid_of x2; replace x3 := hid_of x3; replace x4 := hid_of x4
    go_loopw [14] (fun i wr => ∃ q : Nat, q ≤ u.li ∧ i = .int .i64 q ∧ Hid (Below X.heap.size X wr) ∧ Hid (((List.range u.li).drop q).all K0 = R)) (fun i _ => u.li - (intOf i).toNat)
    case atStart => exact ⟨0, Nat.zero_le _, rfl, Below.refl _ _, h0⟩
    case round =>
      obtain ⟨q, hq, rfl, hBr, hM⟩ := hrel
      have hqb : (q : Int) ≤ 1759218604390 := by omega
      by_cases hlt : q < u.li
      · obtain ⟨b, o', v, ha, m0, m1, m2, m3, m4, hk⟩ := hI.out q hlt
        have hBw := hid_of (hb.out.trans (hBr.out.mono hb.out.size))
        have k0 := stay hBw.out m0
        have k1 := stay hBw.out m1
        have k2 := stay hBw.out m2
        have k3 := stay hBw.out m3
        have k4 := stay hBw.out m4
        have hi : (q : Int) < (u.li : Int) := by omega
        have hst := hdr q hlt
        obtain ⟨kn, hkn⟩ : ∃ z, Hid (K0 q = z) := ⟨_, rfl⟩
        rw [hkn.out] at hst hk
        replace hk := hid_of hk
        rw [ha]
        clear m0 m1 m2 m3 m4 ha hdr
        go_upto_region 5 with fail
        have nx := heap_alloc_new wr (.cells #[.int .i64 v.k, .int .i64 v.x, .string v.s, .slice v.an v.ln v.cn, .slice v.ai v.li v.ci] 25)
        have hBd := hid_of (below_drew (hBr.out.alloc hBr.out.size (.cells #[.int .i64 v.k, .int .i64 v.x, .string v.s, .slice v.an v.ln v.cn, .slice v.ai v.li v.ci] 25)))
        generalize hAg : wr.alloc (.cells #[.int .i64 v.k, .int .i64 v.x, .string v.s, .slice v.an v.ln v.cn, .slice v.ai v.li v.ci] 25) = A at *
        have hAd : A.drew.heap = A.heap := rfl
        rw [← hAd] at nx
        obtain ⟨y0, y1, y2, y3, y4, -⟩ := row_cells nx
        clear k0 k1 k2 k3 k4 hAd hAg nx
        refine wp_region_held_drew (S := (fun V => V.cell? ⟨wr.heap.size, 0, none⟩ = some (.int .i64 v.k) ∧ V.cell? ⟨wr.heap.size, 1, none⟩ = some (.int .i64 v.x) ∧ V.cell? ⟨wr.heap.size, 2, none⟩ = some (.string v.s) ∧ V.cell? ⟨wr.heap.size, 3, none⟩ = some (.slice v.an v.ln v.cn) ∧ V.cell? ⟨wr.heap.size, 4, none⟩ = some (.slice v.ai v.li v.ci))) (by kernel_rfl) ⟨y0, y1, y2, y3, y4⟩ (fun hHeld => ?_)
        refine wpAnyH_take (i := 0) (v := rv) rfl (by kernel_rfl) (by kernel_rfl) (by kernel_rfl) (fun _ _ _ h => h) (Or.inl ⟨by rfl, (by intro w' hS; obtain ⟨s0, s1, s2, s3, s4⟩ := hS; go_simp)⟩) hHeld ?_
        simp only [Act.put, List.getElem_toArray, List.getElem_cons_zero, List.setIfInBounds_toArray, List.set_cons_zero, List.set_cons_succ]
        refine wpAnyH_take (i := 1) (v := .agg #[.int .i64 v.k, .int .i64 v.x, .string v.s, .slice v.an v.ln v.cn, .slice v.ai v.li v.ci]) rfl (by kernel_rfl) (by kernel_rfl) (by kernel_rfl) (fun _ _ _ h => h) (Or.inl ⟨by rfl, (by intro w' hS; obtain ⟨s0, s1, s2, s3, s4⟩ := hS; go_simp)⟩) hHeld ?_
        simp only [Act.put, List.getElem_toArray, List.getElem_cons_zero, List.getElem_cons_succ, List.setIfInBounds_toArray, List.set_cons_zero, List.set_cons_succ]
        refine wpAnyH_take (i := 2) (v := .pointer pp) rfl (by kernel_rfl) (by kernel_rfl) (by kernel_rfl) (fun _ _ _ h => h) (Or.inl ⟨by rfl, (by intro w' hS; obtain ⟨s0, s1, s2, s3, s4⟩ := hS; go_simp)⟩) hHeld ?_
        simp only [Act.put, List.getElem_toArray, List.getElem_cons_zero, List.getElem_cons_succ, List.setIfInBounds_toArray, List.set_cons_zero, List.set_cons_succ]
        refine wpAnyH_take (i := 3) (v := .int .i64 q) rfl (by kernel_rfl) (by kernel_rfl) (by kernel_rfl) (fun _ _ _ h => h) (Or.inl ⟨by rfl, (by intro w' hS; obtain ⟨s0, s1, s2, s3, s4⟩ := hS; go_simp)⟩) hHeld ?_
        simp only [Act.put, List.getElem_toArray, List.getElem_cons_zero, List.getElem_cons_succ, List.setIfInBounds_toArray, List.set_cons_zero, List.set_cons_succ]
        refine wpAnyH_ready (rs := [4]) (by kernel_rfl) (by simp) ?_
        refine AllReadyH.cons rfl (fun K hK => ?_) AllReadyH.nil
        rw [if_pos (by rfl)]
        go_simp
        refine (hIt'.out (q : Int) _ (hb.out.trans (hBd.out.mono hb.out.size)) (by omega) hqb).mono ?_
        rintro e Wi ⟨s, rfl, hbi⟩
        have hBi := hid_of (hBd.out.trans (hbi.mono hBd.out.size))
        have hBn := hid_of (hBi.out.alloc hBi.out.size (.cells #[.pointer pp, .string s] 95))
        replace y0 := stay hbi y0
        replace y1 := stay hbi y1
        replace y2 := stay hbi y2
        replace y3 := stay hbi y3
        replace y4 := stay hbi y4
        refine hK.out _ _ ⟨y0, y1, y2, y3, y4⟩ (fun hHeld => ?_)
        clear hK K hbi hBd
        try simp only [Act.put, List.getElem_toArray, List.getElem_cons_zero, List.getElem_cons_succ, List.setIfInBounds_toArray, List.set_cons_zero, List.set_cons_succ]
        refine wpAnyH_take (i := 5) (v := .agg #[.pointer pp, .string s]) rfl (by kernel_rfl) (by kernel_rfl) (by kernel_rfl) (fun _ _ _ h => h) (Or.inl ⟨by rfl, (by intro w' hS; obtain ⟨s0, s1, s2, s3, s4⟩ := hS; go_simp)⟩) hHeld ?_
        simp only [Act.put, List.getElem_toArray, List.getElem_cons_zero, List.getElem_cons_succ, List.setIfInBounds_toArray, List.set_cons_zero, List.set_cons_succ]
        refine wpAnyH_ready (rs := [6]) (by kernel_rfl) (by simp) ?_
        refine AllReadyH.cons rfl (fun K hK => ?_) AllReadyH.nil
        rw [if_pos (by rfl)]
        go_simp
        refine hK.out _ _ ⟨cell_alloc' (W := Wi) y0 _, cell_alloc' (W := Wi) y1 _, cell_alloc' (W := Wi) y2 _, cell_alloc' (W := Wi) y3 _, cell_alloc' (W := Wi) y4 _⟩ (fun hHeld => ?_)
        clear hK K
        try simp only [Act.put, List.getElem_toArray, List.getElem_cons_zero, List.getElem_cons_succ, List.setIfInBounds_toArray, List.set_cons_zero, List.set_cons_succ]
        refine wpAnyH_ready (rs := [7]) (by kernel_rfl) (by simp) ?_
        refine AllReadyH.cons rfl (fun K hK => ?_) AllReadyH.nil
        rw [if_pos (by rfl)]
        go_simp
        refine (hk.out _ _ (hb.out.trans (hBn.out.mono hb.out.size)) (plc_new _ (PlcAt.keep (hb.out.trans (hBi.out.mono hb.out.size)) n _ hP.out))).mono ?_
        rintro e W ⟨hb2, ⟨rfl, rfl⟩ | ⟨rfl, n2, pv2, s2, h8, rfl, hp2⟩⟩
        · have hB2 := hid_of (hBn.out.trans (hb2.mono hBn.out.size))
          have hM2 : Hid (((List.range u.li).drop (q + 1)).all K0 = R) := by rw [Hid, ← hM.out, hst.out]; simp
          refine hK.out _ _ ⟨stay hb2 (cell_alloc' (W := Wi) y0 _), stay hb2 (cell_alloc' (W := Wi) y1 _), stay hb2 (cell_alloc' (W := Wi) y2 _), stay hb2 (cell_alloc' (W := Wi) y3 _), stay hb2 (cell_alloc' (W := Wi) y4 _)⟩ (fun hHeld => ?_)
          clear hK K hb2 hBn hBi hHeld y0 y1 y2 y3 y4
          try simp only [Act.put, List.getElem_toArray, List.getElem_cons_zero, List.getElem_cons_succ, List.setIfInBounds_toArray, List.set_cons_zero, List.set_cons_succ]
          refine wpAnyH_done (by kernel_rfl) ?_ _
          go_wp2_with fail
          go_roundw
          case rel => exact ⟨q + 1, by omega, by go_num, hB2, hM2⟩
          case measure => simp [intOf]; omega
        · exact ⟨rfl, hb.out.trans ((hBn.out.trans (hb2.mono hBn.out.size)).mono hb.out.size), .inr ⟨by rw [← hM.out, hst.out]; simp, n2, pv2, s2, h8, rfl, hp2⟩⟩
      · have e : (List.range u.li).drop q = [] := List.drop_eq_nil_of_le (by simp; omega)
        have hi : ¬ (q : Int) < (u.li : Int) := by omega
        have hM2 : Hid (R = true) := by rw [Hid, ← hM.out, e]; rfl
        clear hlt e
        go_wp2_with fail
        go_end0
        exact ⟨hb.out.trans (hBr.out.mono hb.out.size), .inl ⟨hM2.out, rfl⟩⟩
  · have hr : Hid ((!(u.k == 5) || R) = true) := by rw [Hid]; simp [h5]
    have e5 : (u.k != 5) = true := by simp [h5]
    rw [hr.out]
    go_wp2_with fail
    go_end0
    exact ⟨hb.out, .inl ⟨rfl, rfl⟩⟩
end Go.Proofs.YtbcfkajcmbckbaaGreatDoor
