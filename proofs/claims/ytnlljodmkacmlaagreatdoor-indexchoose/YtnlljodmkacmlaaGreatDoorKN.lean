import Derived.Test.YtnlljodmkacmlaaGreatDoorKM
import Derived.Test.YtnlljodmkacmlaaGreatDoorKF
/-! The document's New; rows of pointers. -/
namespace Go.Proofs.YtnlljodmkacmlaaGreatDoor.Chk
open Go Go.RowKit

def okS (nm pt : ByteArray) : Bool := nameOk nm && decide ((parseR pt 0 []).2.1 = 0)
def CV (w : World) (o : Option ByteArray) (v : Value) : Prop := (o = none ∧ v = .pointer none) ∨ ∃ pt xb nm un pv ev kv, o = some pt ∧ v = .pointer (some ⟨xb, 0, none⟩) ∧ IxAt w xb nm pt un pv ev kv
def DV (w : World) (o : Option ByteArray) (v : Value) : Prop := (o = none ∧ v = .pointer none) ∨ ∃ pt xb nm un pv, o = some pt ∧ v = .pointer (some ⟨xb, 0, none⟩) ∧ RxAt w xb nm pt un pv
theorem CV.keep {w w' : World} {o : Option ByteArray} {v : Value} (h : CV w o v) (hk : ∀ (b : Nat) (cs : Array Value), w.heap[b]? = some (.cells cs 70 (0, 0)) → w'.heap[b]? = w.heap[b]?) : CV w' o v := by
  rcases h with h | ⟨pt, xb, nm, un, pv, ev, kv, e1, e2, e3⟩
  · exact .inl h
  · exact .inr ⟨pt, xb, nm, un, pv, ev, kv, e1, e2, (hk xb _ e3).trans e3⟩
theorem DV.keep {w w' : World} {o : Option ByteArray} {v : Value} (h : DV w o v) (hk : ∀ (b : Nat) (cs : Array Value), w.heap[b]? = some (.cells cs 92 (0, 0)) → w'.heap[b]? = w.heap[b]?) : DV w' o v := by
  rcases h with h | ⟨pt, xb, nm, un, pv, e1, e2, e3⟩
  · exact .inl h
  · exact .inr ⟨pt, xb, nm, un, pv, e1, e2, (hk xb _ e3).trans e3⟩
theorem code_new (nm pt : ByteArray) (un : Bool) (hn : nm.size ≤ 9223372036854775806) (hp : pt.size ≤ 140737488355328) (w : World) : Calls Tryz.prog 15 #[.agg #[.string nm, .string pt, .bool un]] w fun e w' => ∃ v z, e = .returned (.tuple #[v, .int .i64 z]) ∧ CV w' (if okS nm pt then some pt else none) v ∧ Below w.heap.size w w' := by
  refine (new_any nm pt un hn hp w).mono ?_
  rintro e w' ⟨hB, ⟨h1, h2⟩ | ⟨h1, h2, h3⟩ | ⟨h1, h2, xb, pv, h3, h4, -⟩⟩
  · exact ⟨_, _, h2, .inl ⟨by unfold okS; rw [h1]; rfl, rfl⟩, hB⟩
  · exact ⟨_, _, h3, .inl ⟨by unfold okS; rw [decide_eq_false h2, Bool.and_false]; rfl, rfl⟩, hB⟩
  · exact ⟨_, _, h3, .inr ⟨pt, xb, nm, un, pv, _, _, by unfold okS; rw [h1, decide_eq_true h2]; rfl, rfl, h4⟩, hB⟩
set_option maxHeartbeats 2000000 in
set_option maxRecDepth 100000 in
theorem doc_new (nm pt : ByteArray) (un : Bool) (hn : nm.size ≤ 9223372036854775806) (hp : pt.size ≤ 140737488355328) (w : World) : Calls Tryz.prog 16 #[.agg #[.string nm, .string pt, .bool un]] w fun e w' => ∃ v z, e = .returned (.tuple #[v, .int .i64 z]) ∧ DV w' (if okS nm pt then some pt else none) v ∧ Below w.heap.size w w' := by
  have hB0 := (Below.refl _ w).alloc (Nat.le_refl _) (.cells #[.string nm, .string pt, .bool un] 37)
  have hnew := heap_alloc_new w (.cells #[.string nm, .string pt, .bool un] 37)
  obtain ⟨W1, hW1⟩ : ∃ W1, Hid (w.alloc (.cells #[.string nm, .string pt, .bool un] 37) = W1) := ⟨_, hid_e rfl⟩
  rw [hW1.out] at hB0 hnew
  have c0 : W1.cell? ⟨w.heap.size, 0, none⟩ = some (.string nm) := by simp [World.cell?, hnew]
  have c1 : W1.cell? ⟨w.heap.size, 1, none⟩ = some (.string pt) := by simp [World.cell?, hnew]
  have hnm := hid_e (rname_any nm hn W1)
  have hps := hid_e (rparse_any pt hp W1)
  obtain ⟨no, hno⟩ : ∃ r, Hid (nameOk nm = r) := ⟨_, hid_e rfl⟩
  rw [hno.out] at hnm
  replace hB0 := hid_e hB0
  obtain ⟨oo, hoo⟩ : ∃ o, Hid ((if okS nm pt then some pt else none) = o) := ⟨_, hid_e rfl⟩
  rw [hoo.out]
  cases no
  · go_enter Tryz.func16, Tryz.ntmps16
    go_wp2_with (rw [hW1.out])
    refine hnm.out.mono ?_
    rintro e Z ⟨rfl, hZ⟩
    obtain rfl : W1 = Z := hZ.symm
    clear hZ hnm hps
    go_wp2_with fail
    go_ret2
    exact ⟨_, _, rfl, .inl ⟨by rw [← hoo.out]; unfold okS; rw [hno.out]; rfl, rfl⟩, hB0.out⟩
  · go_enter Tryz.func16, Tryz.ntmps16
    go_wp2_with (rw [hW1.out])
    refine hnm.out.mono ?_
    rintro e Z ⟨rfl, hZ⟩
    obtain rfl : W1 = Z := hZ.symm
    clear hZ hnm
    go_wp2_with fail
    refine hps.out.mono ?_
    rintro e X2 ⟨sl, rfl, hsl, hX2⟩
    obtain ⟨sa, sc, rfl⟩ := ownsRow_slice hsl
    clear hsl
    generalize (parseR pt 0 []).1.length = sn
    have hnew2 := (hX2.block _ (Array.getElem?_eq_some_iff.1 hnew).1).trans hnew
    have d0 : X2.cell? ⟨w.heap.size, 0, none⟩ = some (.string nm) := by simp [World.cell?, hnew2]
    have d1 : X2.cell? ⟨w.heap.size, 1, none⟩ = some (.string pt) := by simp [World.cell?, hnew2]
    have d2 : X2.cell? ⟨w.heap.size, 2, none⟩ = some (.bool un) := by simp [World.cell?, hnew2]
    replace hB0 := hid_e (hB0.out.trans (hX2.mono hB0.out.size))
    clear hnew hnew2 hX2 hps c0 c1 hW1
    obtain ⟨er, her⟩ : ∃ r, Hid ((parseR pt 0 []).2.1 = r) := ⟨_, hid_e rfl⟩
    rw [her.out]
    generalize (parseR pt 0 []).2.2 = at0
    by_cases he : er = 0
    · subst he
      have hB1 := hid_e (hB0.out.alloc hB0.out.size (.cells #[.string nm, .string pt, .bool un, .slice sa sn sc, .slice none 0 0] 92))
      have hx := hid_e (heap_alloc_new X2 (.cells #[.string nm, .string pt, .bool un, .slice sa sn sc, .slice none 0 0] 92))
      go_wp2_with fail
      go_ret2
      exact ⟨_, _, rfl, .inr ⟨pt, X2.heap.size, nm, un, _, by rw [← hoo.out]; unfold okS; rw [hno.out, her.out]; rfl, rfl, hx.out⟩, hB1.out⟩
    · have he' : ((er : Int) != 0) = true := by simp; omega
      go_wp2_with fail
      go_ret2
      exact ⟨_, _, rfl, .inl ⟨by rw [← hoo.out]; unfold okS; rw [her.out, decide_eq_false he, Bool.and_false]; rfl, rfl⟩, hB0.out⟩
end Go.Proofs.YtnlljodmkacmlaaGreatDoor.Chk
