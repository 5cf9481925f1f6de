import Derived.Test.YthgnkhpomhcdkaaGreatDoorUD
import Derived.Lib.OthersKept
/-! How long small values are. -/
namespace Go.Proofs.YthgnkhpomhcdkaaGreatDoor
open Go Go.RowKit

/-- It answers a number of at most B. -/
def Few (B : Nat) (w : World) (e : Ending) (w' : World) : Prop := ∃ n : Nat, e = .returned (.int .i64 n) ∧ n ≤ B ∧ Below w.heap.size w w'
theorem small_one (x : Int) (h0 : 0 ≤ x) (h1 : x < 10) (w : World) : Calls Tryz.prog 247 #[.int .i64 x] w fun e w' => ∃ s : ByteArray, e = .returned (.string s) ∧ s.size = 1 ∧ w' = w := by
  obtain h | h | h | h | h | h | h | h | h | h : x = 0 ∨ x = 1 ∨ x = 2 ∨ x = 3 ∨ x = 4 ∨ x = 5 ∨ x = 6 ∨ x = 7 ∨ x = 8 ∨ x = 9 := by omega
  all_goals
    subst h
    go_enter Tryz.func247, Tryz.ntmps247
    go_wp2_with fail
    go_ret
    exact ⟨_, rfl, rfl, rfl⟩
theorem fmt_one (x : Int) (h0 : 0 ≤ x) (h1 : x < 10) (w : World) : Calls Tryz.prog 160 #[.int .i64 x, .int .i64 10] w fun e w' => ∃ s : ByteArray, e = .returned (.string s) ∧ s.size = 1 ∧ w' = w := by
  have hI : ∀ w, Calls Tryz.prog 199 #[.int .i64 x, .int .i64 10] w fun e w' => ∃ s : ByteArray, e = .returned (.string s) ∧ s.size = 1 ∧ w' = w := by
    intro w
    have a0 : (decide (0 ≤ x)) = true := by simpa using h0
    have a1 : (decide (x < 100)) = true := by simp; omega
    go_enter Tryz.func199, Tryz.ntmps199
    go_wp2_with fail
    refine (small_one x h0 h1 _).mono ?_
    rintro e w1 ⟨s, rfl, hs, rfl⟩
    replace hs := hid_of hs
    go_wp2_with fail
    go_ret
    exact ⟨s, rfl, hs.out, rfl⟩
  go_enter Tryz.func160, Tryz.ntmps160
  go_wp2_with fail
  refine (hI _).mono ?_
  rintro e w1 ⟨s, rfl, hs, rfl⟩
  replace hs := hid_of hs
  go_wp2_with fail
  go_ret
  exact ⟨s, rfl, hs.out, rfl⟩
/-- A text of one plain character. -/
structure Plain1 (s : ByteArray) (c : Int) : Prop where
  size : s.size = 1
  dec : Utf8.decode s 0 = (c.toNat, 1)
  low : 35 ≤ c
  high : c ≤ 90 ∨ (97 ≤ c ∧ c ≤ 122)
theorem isEscaped_not (c : Int) (h0 : 35 ≤ c) (h1 : c ≤ 90 ∨ (97 ≤ c ∧ c ≤ 122)) (w : World) : Calls Tryz.prog 200 #[.int .i32 c] w fun e w' => e = .returned (.bool false) ∧ w' = w := by
  have a0 : (decide (c < 32)) = false := by simp; omega
  have a1 : (c == 34) = false := by simp; omega
  have a2 : (c == 92) = false := by simp; omega
  go_enter Tryz.func200, Tryz.ntmps200
  go_wp2_with fail
  go_ret
  exact ⟨rfl, rfl⟩
set_option maxHeartbeats 1000000 in
theorem quoted_one (s : ByteArray) (c : Int) (h : Plain1 s c) (w : World) : Calls Tryz.prog 161 #[.string s] w (Few 3 w) := by
  obtain ⟨hsz, hd, hlo, hhi⟩ := h
  have hE := isEscaped_not c hlo hhi
  have hc : ((c.toNat : Nat) : Int) = c := by omega
  clear hlo hhi
  replace hsz := hid_of hsz
  have hszi : Hid ((s.size : Int) = 1) := hid_of (by rw [hsz.out]; rfl)
  go_enter Tryz.func161, Tryz.ntmps161
  go_wp2
  rw [hszi.out, show wrap64 ((2 : Int) + 1) = 3 by unfold wrap64; decide]
  go_loopw [3] (fun m wr => m = .int .i64 3 ∧ ∃ pos : Nat, (pos = 0 ∨ pos = 1) ∧ wr.heap[w.heap.size]? = some (.stringIter s pos) ∧ Below w.heap.size w wr) (fun _ wr => 1 - wr.iterPos w.heap.size)
  case atStart => exact ⟨rfl, 0, .inl rfl, heap_alloc_new w _, (Below.refl _ _).alloc (Nat.le_refl _) _⟩
  case round =>
    obtain ⟨rfl, pos, rfl | rfl, hit, hbw⟩ := hrel
    · have HIT : Hid (wr.iterPos w.heap.size = 0) := by simp [Hid, World.iterPos, hit]
      have hnx : ∀ ty, (Instr.next (.pointer (some ⟨w.heap.size, 0, none⟩)) true ty).run Tryz.prog wr = .ok (.tuple #[.bool true, .int .i64 0, .int .i32 c]) (wr.iterAt w.heap.size s 1) := fun ty => (Lib.run_next_any_at wr w.heap.size _ 0 ty hit (by rw [hsz.out]; decide)).trans (by rw [hd]; simp [hc])
      have hit2 : (wr.iterAt w.heap.size s 1).heap[w.heap.size]? = some (.stringIter s 1) := Lib.iterAt_heap wr w.heap.size _ 0 1 hit
      have hbw2 : Below w.heap.size w (wr.iterAt w.heap.size s 1) := Lib.below_iterAt hbw (Nat.le_refl _) _ _
      replace hit2 := hid_of hit2; replace hbw2 := hid_of hbw2
      clear hit hbw
      generalize wr.iterAt w.heap.size s 1 = wx at *
      go_wp2_with fail
      refine (hE _).mono ?_
      rintro e w2 ⟨rfl, rfl⟩
      go_wp2_with fail
      go_roundw
      case rel => exact ⟨rfl, 1, .inr rfl, hit2.out, hbw2.out⟩
      case measure =>
        have h2 : w2.iterPos w.heap.size = 1 := by unfold World.iterPos; rw [hit2.out]
        rw [h2, HIT.out]; decide
    · have hnx : ∀ ty, (Instr.next (.pointer (some ⟨w.heap.size, 0, none⟩)) true ty).run Tryz.prog wr = .ok (.tuple #[.bool false]) wr := fun ty => Lib.run_next_end_at wr w.heap.size _ 1 ty hit (by rw [hsz.out]; decide)
      replace hbw := hid_of hbw
      clear hit
      go_wp2_with fail
      go_ret
      exact ⟨3, rfl, Nat.le_refl _, hbw.out⟩
set_option maxHeartbeats 1000000 in
theorem len_num (x : Int) (h0 : 0 ≤ x) (h1 : x < 10) (s : ByteArray) (an : Option Addr) (ln cn : Nat) (ai : Option Addr) (li ci : Nat) (w : World) : Calls Tryz.prog 111 #[.agg #[.int .i64 3, .int .i64 x, .string s, .slice an ln cn, .slice ai li ci]] w (Few 3 w) := by
  go_enter Tryz.func111, Tryz.ntmps111
  go_wp2_with fail
  refine (fmt_one x h0 h1 _).mono ?_
  rintro e w1 ⟨s, rfl, hs, rfl⟩
  replace hs := hid_of hs
  go_wp2_with fail
  go_ret
  exact ⟨s.size, rfl, by rw [hs.out]; decide, (Below.refl _ w).alloc (Nat.le_refl _) _⟩
set_option maxHeartbeats 1000000 in
theorem len_word (x : Int) (s : ByteArray) (c : Int) (h : Plain1 s c) (an : Option Addr) (ln cn : Nat) (ai : Option Addr) (li ci : Nat) (w : World) : Calls Tryz.prog 111 #[.agg #[.int .i64 4, .int .i64 x, .string s, .slice an ln cn, .slice ai li ci]] w (Few 3 w) := by
  go_enter Tryz.func111, Tryz.ntmps111
  go_wp2_with fail
  refine (quoted_one s c h _).mono ?_
  rintro e w1 ⟨n, rfl, hn, hb⟩
  replace hn := hid_of hn
  have hB := hid_of (((Below.refl _ w).alloc (Nat.le_refl _) _).trans (hb.mono (by simp)))
  clear hb
  go_wp2_with fail
  go_ret
  exact ⟨n, rfl, hn.out, hB.out⟩
end Go.Proofs.YthgnkhpomhcdkaaGreatDoor
/-! How long small lists and objects are. -/
namespace Go.Proofs.YthgnkhpomhcdkaaGreatDoor
open Go Go.RowKit

set_option maxHeartbeats 4000000 in
set_option maxRecDepth 100000 in
theorem nest_few (B : Nat) (hBB : B ≤ 1000) (k x : Int) (s : ByteArray) (an : Option Addr) (cn : Nat) (ns : List ByteArray) (ai : Option Addr) (ci : Nat) (its : List Tr) (w : World) (hN : ns.length ≤ 2) (hT : its.length ≤ 2)
    (hR : Hid (Reads w (.slice an ns.length cn) ns)) (hL : Hid (its = [] ∨ ∃ b o, ai = some ⟨b, o, none⟩ ∧ b < w.heap.size ∧ VRepL w b o its))
    (hq : Hid (∀ n ∈ ns, ∀ w, Calls Tryz.prog 161 #[.string n] w (Few 3 w)))
    (hI : Hid (∀ (i : Nat) u, its[i]? = some u → ∀ ds w', VRep w' u ds → Calls Tryz.prog 111 #[.agg ds.toArray] w' (Few B w'))) :
    Calls Tryz.prog 162 #[.agg #[.int .i64 k, .int .i64 x, .string s, .slice an ns.length cn, .slice ai its.length ci]] w (Few (12 + 2 * B) w) := by
  have HB0 : Hid (Below (w.alloc (.cells #[.int .i64 k, .int .i64 x, .string s, .slice an ns.length cn, .slice ai its.length ci] 28)).heap.size (w.alloc (.cells #[.int .i64 k, .int .i64 x, .string s, .slice an ns.length cn, .slice ai its.length ci] 28)) (w.alloc (.cells #[.int .i64 k, .int .i64 x, .string s, .slice an ns.length cn, .slice ai its.length ci] 28))) := Below.refl _ _
  go_enter Tryz.func162, Tryz.ntmps162
  go_wp2_with fail
  go_loopw [3, 18] (fun m i wr => ∃ (q z : Nat), q ≤ ns.length ∧ i = .int .i64 q ∧ m = .int .i64 (z : Int) ∧ z ≤ 4 + 4 * q ∧ Below (w.alloc (.cells #[.int .i64 k, .int .i64 x, .string s, .slice an ns.length cn, .slice ai its.length ci] 28)).heap.size (w.alloc (.cells #[.int .i64 k, .int .i64 x, .string s, .slice an ns.length cn, .slice ai its.length ci] 28)) wr) (fun _ i wr => ns.length - (intOf i).toNat)
  case atStart => exact ⟨0, 2 + (its.length - 1), Nat.zero_le _, rfl, congrArg (Value.int .i64) (by omega), by omega, HB0.out⟩
  case round =>
    obtain ⟨q, z, hq0, rfl, rfl, hz, hbx⟩ := hrel
    have hbw := below_box hbx
    by_cases hlt : q < ns.length
    · obtain ⟨nm, hnm⟩ : ∃ u, Hid (ns[q]? = some u) := ⟨_, hid_of (List.getElem?_eq_getElem hlt)⟩
      have ho := hid_of (hq.out nm (List.mem_of_getElem? hnm.out))
      obtain ⟨an0, cn0, hane, -, hrd⟩ := hR.out
      obtain ⟨gn, on, rfl, -, hrd⟩ := hrd.resolve_left (by intro e; subst e; simp at hlt)
      simp only [Value.slice.injEq] at hane
      obtain ⟨rfl, -, -⟩ := hane
      have nc := stay hbw (hrd q nm hnm.out)
      have b1 : (z : Int) ≤ 12 := by omega
      have b3 : (0 : Int) ≤ (z : Int) := by omega
      have i1 : (q : Int) < (ns.length : Int) := by omega
      have hsz := hbx.size
      clear hrd
      go_wp2_with fail
      refine (ho.out wr).mono ?_
      rintro e w2 ⟨n, rfl, hn, hb2⟩
      have hbx2 := hbx.trans (hb2.mono hsz)
      clear hb2 nc
      have b4 : (0 : Int) ≤ (n : Int) := by omega
      have b5 : (n : Int) ≤ 3 := by omega
      go_wp2_with fail
      go_roundw
      case rel => exact ⟨q + 1, z + (n + 1), by omega, by go_num, congrArg (Value.int .i64) (by omega), by omega, hbx2⟩
      case measure => simp [intOf]; omega
    · obtain rfl : q = ns.length := by omega
      clear hlt hq0
      have y4 : wr.cell? ⟨w.heap.size, 4, none⟩ = some (.slice ai its.length ci) := box_cells hbx 4
      go_wp2_with fail
      clear y4
      go_loopw [3, 31] (fun m i wr => ∃ (p z : Nat), p ≤ its.length ∧ i = .int .i64 p ∧ m = .int .i64 (z : Int) ∧ z ≤ 12 + p * B ∧ Below w.heap.size w wr) (fun _ i wr => its.length - (intOf i).toNat)
      case atStart => exact ⟨0, z, Nat.zero_le _, rfl, rfl, by omega, hbw⟩
      case round =>
        clear hbw hbx hz
        obtain ⟨p, z, hp, rfl, rfl, hz, hbw⟩ := hrel
        have hpB : p * B ≤ 2 * B := Nat.mul_le_mul_right _ (by omega)
        by_cases hlt : p < its.length
        · obtain ⟨u, hu⟩ : ∃ u, Hid (its[p]? = some u) := ⟨_, hid_of (List.getElem?_eq_getElem hlt)⟩
          obtain ⟨b, o, rfl, hb, hV⟩ := hL.out.resolve_left (by intro e; subst e; simp at hlt)
          obtain ⟨cs, hCs, hr⟩ := VRepL.at its o p u hV hu.out
          obtain ⟨k2, x2, s2, an2, ln2, cn2, ai2, li2, ci2, rfl⟩ := vrep_five hr
          have z0 := stay hbw (hCs 0 _ rfl)
          have z1 := stay hbw (hCs 1 _ rfl)
          have z2 := stay hbw (hCs 2 _ rfl)
          have z3 := stay hbw (hCs 3 _ rfl)
          have z4 := stay hbw (hCs 4 _ rfl)
          simp only [Nat.add_zero] at z0
          have hsz := hbw.size
          have hcall := fun ob => hid_of (hI.out p u hu.out _ (wr.alloc ob) (VRep.keep (hbw.alloc hsz ob) _ _ hr))
          have b1 : (z : Int) ≤ 3000 := by omega
          have b3 : (0 : Int) ≤ (z : Int) := by omega
          have i1 : (p : Int) < (its.length : Int) := by omega
          have hz2 := hid_of hz
          have hpB2 := hid_of (show (p + 1) * B = p * B + B by rw [Nat.succ_mul])
          clear hV hCs hr hz hpB
          go_wp2_with fail
          go_fit (hcall _).out
          rintro e w3 ⟨n, rfl, hn, hb3⟩
          have hbw3 : Below w.heap.size w w3 := (hbw.alloc hsz _).trans (hb3.mono (by rw [World.size_alloc]; omega))
          clear hb3 hcall z0 z1 z2 z3 z4
          have b4 : (0 : Int) ≤ (n : Int) := by omega
          have b5 : (n : Int) ≤ 1000 := by omega
          go_wp2_with fail
          go_roundw
          case rel => exact ⟨p + 1, z + n, by omega, by go_num, congrArg (Value.int .i64) (by omega), by have := hz2.out; have := hpB2.out; omega, hbw3⟩
          case measure => simp [intOf]; omega
        · obtain rfl : p = its.length := by omega
          clear hlt hp
          have hz2 := hid_of hz
          have hb2 := hid_of hpB
          clear hz hpB
          go_wp2_with fail
          go_ret
          exact ⟨z, rfl, by have := hz2.out; have := hb2.out; omega, hbw⟩
/-- However it lies, its text has at most B bytes. -/
def Sh (B : Nat) (t : Tr) : Prop := ∀ ds w, VRep w t ds → Calls Tryz.prog 111 #[.agg ds.toArray] w (Few B w)
theorem sh_num (x : Int) (h0 : 0 ≤ x) (h1 : x < 10) : Sh 3 (numT x) := by
  intro ds w hV
  unfold numT VRep at hV
  obtain ⟨nm, a, c, rfl, ⟨an, cn, rfl, -, -⟩, -, -⟩ := hV
  exact len_num x h0 h1 _ _ _ _ _ _ _ w
theorem sh_word (s : ByteArray) (c : Int) (h : Plain1 s c) : Sh 3 (wordT s) := by
  intro ds w hV
  unfold wordT VRep at hV
  obtain ⟨nm, a, c, rfl, ⟨an, cn, rfl, -, -⟩, -, -⟩ := hV
  exact len_word _ s _ h _ _ _ _ _ _ w
set_option maxHeartbeats 1000000 in
theorem sh_nest (B : Nat) (hBB : B ≤ 1000) (k x : Int) (hk : k = 5 ∨ k = 6) (s : ByteArray) (ns : List ByteArray) (its : List Tr) (hN : ns.length ≤ 2) (hT : its.length ≤ 2)
    (hq : ∀ n ∈ ns, ∃ c, Plain1 n c) (hI : ∀ u ∈ its, Sh B u) : Sh (12 + 2 * B) (.node k x s ns its) := by
  intro ds w hV
  unfold VRep at hV
  obtain ⟨nm, a, c, rfl, ⟨an, cn, rfl, hx1, hx2⟩, hy1, hy2⟩ := hV
  have hn := fun o => nest_few B hBB k x s an cn ns a c its (w.alloc o) hN hT (hid_of (Reads.keep (show Reads w (.slice an ns.length cn) ns from ⟨an, cn, rfl, hx1, hx2⟩) ((Below.refl _ w).alloc (Nat.le_refl _) o))) (hid_of (by
      rcases hy2 with h | ⟨b, o', h1, h2, h3⟩
      · exact .inl h
      · exact .inr ⟨b, o', h1, by simp; omega, VRepL.keep ((Below.refl _ w).alloc (Nat.le_refl _) o) h2 _ _ h3⟩)) (hid_of (fun n hn => by obtain ⟨c, h⟩ := hq n hn; exact quoted_one n c h)) (hid_of (fun i u hu => hI u (List.mem_of_getElem? hu)))
  clear hx1 hx2 hy1 hy2 hq hI hN hT
  unfold five
  rcases hk with rfl | rfl
  all_goals
    go_enter Tryz.func111, Tryz.ntmps111
    go_wp2_with fail
    refine (hn _).mono ?_
    rintro e w1 ⟨n, rfl, hn2, hb⟩
    replace hn2 := hid_of hn2
    have hB := hid_of (((Below.refl _ w).alloc (Nat.le_refl _) _).trans (hb.mono (by simp)))
    clear hb hn
    go_wp2_with fail
    go_ret
    exact ⟨n, rfl, hn2.out, hB.out⟩
end Go.Proofs.YthgnkhpomhcdkaaGreatDoor
