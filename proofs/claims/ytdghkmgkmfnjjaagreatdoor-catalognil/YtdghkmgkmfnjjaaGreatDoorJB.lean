import Derived.Test.YtdghkmgkmfnjjaaGreatDoorJA
/-! Names; New; what live makes its items by. -/
namespace Go.Proofs.YtdghkmgkmfnjjaaGreatDoor
open Go Go.RowKit
def letterB (b : UInt8) : Bool := decide (97 ≤ b.toNat) && decide (b.toNat ≤ 122)
def nameByte (b : UInt8) : Bool := letterB b || (decide (48 ≤ b.toNat) && decide (b.toNat ≤ 57)) || decide (b.toNat = 45) || decide (b.toNat = 95) || decide (b.toNat = 46)
def nameOk (s : ByteArray) : Bool := decide (1 ≤ s.size) && decide (s.size ≤ 32) && letterB (byteAt s 0) && s.data.toList.all nameByte
theorem all_true {s : ByteArray} {p : UInt8 → Bool} (h : ∀ j, j < s.size → p (byteAt s j) = true) : s.data.toList.all p = true := by
  rw [List.all_eq_true]
  intro x hx
  obtain ⟨j, hj, rfl⟩ := List.getElem_of_mem hx
  have hj' : j < s.size := by simpa using hj
  have := h j hj'
  rw [← byteAt_eq hj'] at this
  have this : p s.data[j] = true := this
  simpa using this
theorem all_false {s : ByteArray} {p : UInt8 → Bool} {j : Nat} (hj : j < s.size) (h : p (byteAt s j) = false) : s.data.toList.all p = false := by
  rw [List.all_eq_false]
  refine ⟨s[j], ?_, by rw [byteAt_eq hj, h]; decide⟩
  exact Array.mem_toList_iff.2 (Array.getElem_mem (xs := s.data) hj)
theorem ownsRow_lo {w : World} {lo lo' : Nat} {e : TypeId} {size : Nat} {v : Value} {n : Nat} {xs : List Value} (h : w.ownsRow lo e size v n xs) (hl : lo' ≤ lo) : w.ownsRow lo' e size v n xs := by
  refine ⟨h.1, ?_⟩
  rcases h.2 with h | ⟨g, cap, cur, h1, h2, h3⟩
  · exact .inl h
  · exact .inr ⟨g, cap, cur, h1, Nat.le_trans hl h2, h3⟩
theorem letter_any (b : UInt8) (w : World) : Calls Tryz.prog 49 #[.int .u8 b.toNat] w fun e w' => e = .returned (.bool (letterB b)) ∧ w' = w := by
  by_cases h : 97 ≤ b.toNat
  · have d : decide ((97 : Int) ≤ (b.toNat : Int)) = true := by simp; omega
    go_enter Tryz.func49, Tryz.ntmps49
    go_wp2
    go_ret
    exact ⟨ret_bool (by simp [letterB, h]; try omega), rfl⟩
  · have d : decide ((97 : Int) ≤ (b.toNat : Int)) = false := by simp; omega
    go_enter Tryz.func49, Tryz.ntmps49
    go_wp2
    go_ret
    exact ⟨ret_bool (by simp [letterB, h]), rfl⟩
theorem nat_beq (a b : Nat) : ((a : Int) == (b : Int)) = decide (a = b) := by
  rw [Bool.eq_iff_iff, beq_iff_eq, decide_eq_true_iff]
  exact Int.ofNat_inj
set_option maxHeartbeats 1000000 in
theorem ofName_any (b : UInt8) (w : World) : Calls Tryz.prog 50 #[.int .u8 b.toNat] w fun e w' => e = .returned (.bool (nameByte b)) ∧ w' = w := by
  have hl := hid_of (letter_any b w)
  have e1 := nat_beq b.toNat 45
  have e2 := nat_beq b.toNat 95
  have e3 := nat_beq b.toNat 46
  have g0 : nameByte b = (letterB b || (decide (48 ≤ b.toNat) && decide (b.toNat ≤ 57)) || decide (b.toNat = 45) || decide (b.toNat = 95) || decide (b.toNat = 46)) := rfl
  replace g0 := hid_of g0
  go_enter Tryz.func50, Tryz.ntmps50
  go_wp2_with fail
  refine hl.out.mono ?_
  rintro e w' ⟨rfl, rfl⟩
  clear hl
  generalize letterB b = l at *
  cases l
  all_goals
    go_wp2
  all_goals
    go_ret
    refine ⟨ret_bool ?_, rfl⟩
    rw [g0.out]
    first
      | rfl
      | (clear e1 e2 e3 g0; rw [Bool.eq_iff_iff]; simp at *; omega)
set_option maxHeartbeats 1000000 in
theorem name_any (s : ByteArray) (hs : s.size ≤ 9223372036854775806) (w : World) : Calls Tryz.prog 27 #[.string s] w fun e w' => e = .returned (.bool (nameOk s)) ∧ w' = w := by
  by_cases h1 : 1 ≤ s.size
  · have d1 : decide ((s.size : Int) < 1) = false := by simp; omega
    by_cases h2 : s.size ≤ 32
    · have d2 : decide (32 < (s.size : Int)) = false := by simp; omega
      have e0 := byteAt_eq (show 0 < s.size by omega)
      have hl := hid_of (letter_any (byteAt s 0) w)
      go_enter Tryz.func27, Tryz.ntmps27
      go_wp2_with fail
      refine hl.out.mono ?_
      rintro e w' ⟨rfl, rfl⟩
      clear hl
      cases hL : letterB (byteAt s 0)
      · have hfin : nameOk s = false := by unfold nameOk; simp [hL]
        go_wp2_with fail
        go_ret
        exact ⟨ret_bool hfin.symm, rfl⟩
      · go_wp2_with fail
        replace hL := hid_of hL
        clear e0
        go_loopw [20] (fun i wr => ∃ q : Nat, q ≤ s.size ∧ i = .int .i64 q ∧ wr = w' ∧ Hid (∀ j, j < q → nameByte (byteAt s j) = true)) (fun i _ => s.size - (intOf i).toNat)
        case atStart => exact ⟨0, Nat.zero_le _, rfl, rfl, fun j h => by omega⟩
        case round =>
          obtain ⟨q, hq, rfl, rfl, hB⟩ := hrel
          by_cases hlt : q < s.size
          · have hd : decide ((q : Int) < (s.size : Int)) = true := by simp; omega
            have he := byteAt_eq hlt
            have ho := hid_of (ofName_any (byteAt s q) wr)
            go_wp2_with fail
            refine ho.out.mono ?_
            rintro e w' ⟨rfl, rfl⟩
            clear ho
            cases hb : nameByte (byteAt s q)
            · have hfin : nameOk s = false := by
                unfold nameOk
                rw [all_false hlt hb]
                simp
              go_wp2_with fail
              go_ret
              exact ⟨ret_bool hfin.symm, rfl⟩
            · have hN : Hid (∀ j, j < q + 1 → nameByte (byteAt s j) = true) := fun j h => by
                by_cases e : j = q
                · subst e; exact hb
                · exact hB.out j (by omega)
              clear hB hb
              go_wp2_with fail
              go_roundw
              case rel => exact ⟨q + 1, by omega, by simp, by simp, hN⟩
              case measure => simp [intOf]; omega
          · have hd : decide ((q : Int) < (s.size : Int)) = false := by simp; omega
            have hfin : nameOk s = true := by
              unfold nameOk
              rw [all_true (fun j h => hB.out j (by omega)), hL.out]
              simp; omega
            clear hB
            go_wp2_with fail
            go_ret
            exact ⟨ret_bool hfin.symm, rfl⟩
    · have d2 : decide (32 < (s.size : Int)) = true := by simp; omega
      have hfin : nameOk s = false := by unfold nameOk; simp [h2]
      rw [hfin]
      go_enter Tryz.func27, Tryz.ntmps27
      go_wp2_with fail
      go_ret
      exact ⟨rfl, rfl⟩
  · have d1 : decide ((s.size : Int) < 1) = true := by simp; omega
    have hfin : nameOk s = false := by unfold nameOk; simp; omega
    rw [hfin]
    go_enter Tryz.func27, Tryz.ntmps27
    go_wp2_with fail
    go_ret
    exact ⟨rfl, rfl⟩
theorem num17 (e : Int) (w : World) : Calls Tryz.prog 10 #[.int .i64 e] w fun r w' => r = .returned (.int .i64 e) ∧ w' = w := by
  go_enter Tryz.func10, Tryz.ntmps10
  go_wp2
  go_ret
  exact ⟨rfl, rfl⟩
/-- An index in memory. -/
def IxAt (w : World) (xb : Nat) (nm pt : ByteArray) (un : Bool) (pv ev kv : Value) : Prop := w.heap[xb]? = some (.cells #[.string nm, .string pt, .bool un, pv, ev, kv] 105 (0, 0))
theorem IxAt.keep {w w' : World} {xb : Nat} {nm pt : ByteArray} {un : Bool} {pv ev kv : Value} (h : IxAt w xb nm pt un pv ev kv) (hb : Below w.heap.size w w') : IxAt w' xb nm pt un pv ev kv := block_keep h hb
theorem IxAt.cells {w : World} {xb : Nat} {nm pt : ByteArray} {un : Bool} {pv ev kv : Value} (h : IxAt w xb nm pt un pv ev kv) : w.cell? ⟨xb, 0, none⟩ = some (.string nm) ∧ w.cell? ⟨xb, 1, none⟩ = some (.string pt) ∧ w.cell? ⟨xb, 2, none⟩ = some (.bool un) ∧ w.cell? ⟨xb, 3, none⟩ = some pv ∧ w.cell? ⟨xb, 4, none⟩ = some ev ∧ w.cell? ⟨xb, 5, none⟩ = some kv := by
  unfold IxAt at h
  refine ⟨?_, ?_, ?_, ?_, ?_, ?_⟩
  all_goals simp [World.cell?, h]
/-- What New answers. -/
def NewPost (w : World) (nm pt : ByteArray) (un : Bool) (e : Ending) (w' : World) : Prop := Below w.heap.size w w' ∧
  ((nameOk nm = false ∧ e = .returned (.tuple #[.pointer none, .int .i64 170])) ∨
   (nameOk nm = true ∧ (parseR pt 0 []).2.1 ≠ 0 ∧ e = .returned (.tuple #[.pointer none, .int .i64 (parseR pt 0 []).2.1])) ∨
   (nameOk nm = true ∧ (parseR pt 0 []).2.1 = 0 ∧ ∃ xb pv, e = .returned (.tuple #[.pointer (some ⟨xb, 0, none⟩), .int .i64 0]) ∧ IxAt w' xb nm pt un pv (.slice none 0 0) (.slice none 0 0) ∧ w'.ownsRow w.heap.size 9 1 pv (parseR pt 0 []).1.length (strs (parseR pt 0 []).1)))
set_option maxHeartbeats 1000000 in
set_option maxRecDepth 100000 in
theorem new_any (nm pt : ByteArray) (un : Bool) (hn : nm.size ≤ 9223372036854775806) (hp : pt.size ≤ 140737488355328) (w : World) : Calls Tryz.prog 53 #[.agg #[.string nm, .string pt, .bool un]] w (NewPost w nm pt un) := by
  have HB : Below w.heap.size w (w.alloc (.cells #[.string nm, .string pt, .bool un] 27)) := (Below.refl _ w).alloc (Nat.le_refl _) _
  have n0 := heap_alloc_new w (.cells #[.string nm, .string pt, .bool un] 27)
  go_enter Tryz.func53, Tryz.ntmps53
  go_wp2_with fail
  generalize w.alloc (.cells #[.string nm, .string pt, .bool un] 27) = X0 at HB n0
  refine (name_any nm hn X0).mono ?_
  rintro e X1 ⟨rfl, hX⟩
  subst hX
  cases hN : nameOk nm
  · replace hN := hid_of hN
    go_wp2_with fail
    go_ret2
    exact ⟨HB, .inl ⟨hN.out, rfl⟩⟩
  · replace hN := hid_of hN
    have c0 : X1.cell? ⟨w.heap.size, 0, none⟩ = some (.string nm) := by simp [World.cell?, n0]
    have c1 : X1.cell? ⟨w.heap.size, 1, none⟩ = some (.string pt) := by simp [World.cell?, n0]
    have c2 : X1.cell? ⟨w.heap.size, 2, none⟩ = some (.bool un) := by simp [World.cell?, n0]
    go_wp2_with fail
    refine (parse_any pt hp X1).mono ?_
    rintro e X2 ⟨sl, rfl, hown, hb2⟩
    obtain ⟨ap, cp, rfl⟩ := ownsRow_slice hown
    replace c0 := stay hb2 c0
    replace c1 := stay hb2 c1
    replace c2 := stay hb2 c2
    have hs := HB.size
    replace HB := HB.trans (hb2.mono HB.size)
    clear hb2 n0
    replace hown := hid_of hown
    replace hs := hid_of hs
    by_cases he : (parseR pt 0 []).2.1 = 0
    · have hd : ((((parseR pt 0 []).2.1 : Nat) : Int) != 0) = false := by simp [he]
      replace he := hid_of he
      go_wp2_with fail
      go_ret2
      refine ⟨HB.alloc HB.size _, .inr (.inr ⟨hN.out, he.out, X2.heap.size, _, rfl, heap_alloc_new _ _, ?_⟩)⟩
      exact ownsRow_below (ownsRow_lo hown.out hs.out) ((Below.refl _ _).alloc (Nat.le_refl _) _)
    · have hd : ((((parseR pt 0 []).2.1 : Nat) : Int) != 0) = true := by simp [he]
      replace he := hid_of he
      go_wp2_with fail
      go_ret2
      exact ⟨HB, .inr (.inl ⟨hN.out, he.out, rfl⟩)⟩
set_option maxHeartbeats 1000000 in
set_option maxRecDepth 100000 in
/-- An item with a number at t. -/
theorem item_any (s : ByteArray) (x : Int) (w : World) : Calls Tryz.prog 25 #[.string s, .int .i64 x] w fun e w' => Below w.heap.size w w' ∧ ∃ bn bi, e = .returned (.agg #[.string s, .int .i64 0, .int .i64 6, .int .i64 0, .string ⟨#[]⟩, .slice (some ⟨bn, 0, none⟩) 1 1, .slice (some ⟨bi, 0, none⟩) 1 1]) ∧ w'.cell? ⟨bn, 0, none⟩ = some (.string nameA) ∧ NumAt w' bi 0 x := by
  go_enter Tryz.func25, Tryz.ntmps25
  go_wp2
  go_returns
  refine ⟨?_, _, _, rfl, ?_, ?_⟩
  · exact (((Below.refl _ w).alloc (Nat.le_refl _) _).alloc (by simp) _).alloc (by simp; omega) _
  · exact cell_alloc' (cell_of_one (heap_new' (by simp))) _
  · obtain ⟨h0, h1, h2, h3, h4⟩ := five_at (heap_new' (w := (w.alloc (.cells #[.string s, .int .i64 0, .int .i64 6, .int .i64 0, .string ⟨#[]⟩, .slice (some ⟨w.heap.size + 1, 0, none⟩) 1 1, .slice (some ⟨w.heap.size + 1 + 1, 0, none⟩) 1 1] 58)).alloc (.cells #[.string nameA] 9)) (n := w.heap.size + 1 + 1) (o := .cells #[.int .i64 3, .int .i64 x, .string ⟨#[]⟩, .slice none 0 0, .slice none 0 0] 25) (by simp))
    exact ⟨h0, h1, h2, h3, h4⟩
end Go.Proofs.YtdghkmgkmfnjjaaGreatDoor
