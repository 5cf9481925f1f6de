import Derived.Test.YtnccaidlcaeeaaaGreatDoorB3
import Derived.Test.YtnccaidlcaeeaaaGreatDoorW26
/-! The length of every value that Check finds good. -/
namespace Go.Proofs.YtnccaidlcaeeaaaGreatDoor.Tree
open Go Go.RowKit Go.Maps

/-- A text that is clean. -/
def okS (s : ByteArray) : Prop := s.size ≤ 140737488351232 ∧ Lib.validD s.data.toList = true
set_option maxHeartbeats 1000000 in
theorem qlen_big (s : ByteArray) (hs : okS s) (w : World) : Calls Tryz.prog 45 #[.string s] w fun e w' => e = .returned (.int .i64 ((qT s).length : Int)) ∧ Below w.heap.size w w' := by
  have hsz := hs.1
  have HV : Hid (Lib.validD (tl s 0) = true) := hs.2
  clear hs
  go_enter Tryz.func45, Tryz.ntmps45
  go_wp2
  go_loopw [3] (fun m wr => ∃ (z : Int) (pos : Nat), m = .int .i64 z ∧ 0 ≤ z ∧ z ≤ 900000000000000 ∧ pos ≤ s.size ∧ Hid (z = 2 + (s.size : Int) + ((eT s pos).length : Int) - pos) ∧ Hid (Lib.validD (tl s pos) = true) ∧ wr.heap[w.heap.size]? = some (.stringIter s pos) ∧ Below w.heap.size w wr) (fun _ wr => s.size - wr.iterPos w.heap.size)
  case atStart => exact ⟨2 + (s.size : Int), 0, rfl, by omega, by omega, Nat.zero_le _, by unfold Hid; simp [eT, escT_nil], HV, heap_alloc_new w _, (Below.refl _ _).alloc (Nat.le_refl _) _⟩
  case round =>
    obtain ⟨z, pos, rfl, hz0, hz1, hpos, HZ, HVp, hit, hbw⟩ := hrel
    by_cases hp : pos < s.size
    · have HC := hid' (char_at hp HVp.out)
      have HIT : Hid (wr.iterPos w.heap.size = pos) := by simp [Hid, World.iterPos, hit]
      have hnx : ∀ ty, (Instr.next (.pointer (some ⟨w.heap.size, 0, none⟩)) true ty).run Tryz.prog wr = .ok (.tuple #[.bool true, .int .i64 pos, .int .i32 ((Utf8.decode s pos).1 : Int)]) (wr.iterAt w.heap.size s (pos + (Utf8.decode s pos).2)) := fun ty => Lib.run_next_any_at wr w.heap.size _ pos ty hit hp
      generalize (Utf8.decode s pos).1 = c at *
      generalize (Utf8.decode s pos).2 = k at *
      have hit2 : (wr.iterAt w.heap.size s (pos + k)).heap[w.heap.size]? = some (.stringIter s (pos + k)) := Lib.iterAt_heap wr w.heap.size _ pos (pos + k) hit
      have hbw2 : Below w.heap.size w (wr.iterAt w.heap.size s (pos + k)) := Lib.below_iterAt hbw (Nat.le_refl _) _ _
      have HIT2 : Hid ((wr.iterAt w.heap.size s (pos + k)).heap[w.heap.size]? = some (.stringIter s (pos + k))) := hit2
      have HGE : Hid (pos + k ≤ s.size ∧ 1 ≤ k) := ⟨HC.out.le, HC.out.ge⟩
      clear hit hit2
      generalize wr.iterAt w.heap.size s (pos + k) = wx at *
      have hes := esc_size c
      go_wp2_with fail
      refine (esc_is c wx).mono ?_
      rintro e w2 ⟨rfl, rfl⟩
      cases hesc : isEsc c with
      | true =>
        have HK : Hid (k = 1 ∧ eT s (pos + k) = eT s pos ++ escB c) := ⟨HC.out.one hesc, by have := HC.out.txt; rwa [if_pos hesc] at this⟩
        go_wp2_with fail
        refine (esc45_any c hesc w2).mono ?_
        rintro e w3 ⟨rfl, nd, rfl⟩
        have hbw3 : Below w.heap.size w (w2.drewN nd) := below_drewN hbw2 nd
        have HIT3 : Hid ((w2.drewN nd).heap[w.heap.size]? = some (.stringIter s (pos + k))) := HIT2.out
        have HSZ : Hid (((⟨(escB c).toArray⟩ : ByteArray).size : Int) = ((escB c).length : Int)) := by unfold Hid; show (((escB c).toArray.size : Nat) : Int) = _; simp
        obtain ⟨y, HY⟩ : ∃ y : Int, Hid (((⟨(escB c).toArray⟩ : ByteArray).size : Int) = y) := ⟨_, rfl⟩
        have hy : 2 ≤ y ∧ y ≤ 6 := by have h1 := HSZ.out; have h2 := HY.out; omega
        have HYE : Hid (y = ((escB c).length : Int)) := by unfold Hid; rw [← HY.out]; exact HSZ.out
        have hyr := HY.out
        clear hesc
        generalize w2.drewN nd = w4 at *
        go_wp2_with fail
        go_roundw
        case rel =>
          refine ⟨_, pos + k, rfl, by omega, ?_, HGE.out.1, ?_, HC.out.next, HIT3.out, hbw3⟩
          · have h1 := HK.out
            have h2 := eT_len s (pos + k) HGE.out.1
            have h3 := congrArg List.length h1.2
            rw [List.length_append] at h3
            have h4 := HZ.out
            have h5 := HYE.out
            omega
          · unfold Hid
            have h1 := HK.out
            have h3 := congrArg List.length h1.2
            rw [List.length_append] at h3
            have h4 := HZ.out
            have h5 := HYE.out
            omega
        case measure =>
          have h2 : w4.iterPos w.heap.size = pos + k := by unfold World.iterPos; rw [HIT3.out]
          rw [h2, HIT.out]
          have := HGE.out
          omega
      | false =>
        have HK : Hid ((eT s (pos + k)).length = (eT s pos).length + k) := by
          have h1 := HC.out.txt
          rw [if_neg (by rw [hesc]; decide)] at h1
          unfold Hid
          rw [h1, List.length_append, HC.out.wide hesc]
        clear hesc
        go_wp2_with fail
        go_roundw
        case rel =>
          refine ⟨_, pos + k, rfl, hz0, hz1, HGE.out.1, ?_, HC.out.next, HIT2.out, hbw2⟩
          unfold Hid
          have h1 := HK.out
          have h4 := HZ.out
          omega
        case measure =>
          have h2 : w2.iterPos w.heap.size = pos + k := by unfold World.iterPos; rw [HIT2.out]
          rw [h2, HIT.out]
          have := HGE.out
          omega
    · have hnx : ∀ ty, (Instr.next (.pointer (some ⟨w.heap.size, 0, none⟩)) true ty).run Tryz.prog wr = .ok (.tuple #[.bool false]) wr := fun ty => Lib.run_next_end_at wr w.heap.size _ pos ty hit (by omega)
      have HE : Hid (z = ((qT s).length : Int)) := by
        have e : pos = s.size := by omega
        have h4 := HZ.out
        rw [e, eT_end] at h4
        unfold Hid qT
        simp only [List.length_append, List.length_cons, List.length_nil]
        omega
      clear hit
      go_wp2_with fail
      go_ret
      exact ⟨ret_int HE.out, hbw⟩


def nameSum : List ByteArray → Nat
  | [] => 0
  | n :: ns => (qT n).length + 1 + nameSum ns
mutual
/-- How many bytes the text of a value has. -/
def lenT : Tr → Nat
  | .node k x s ns its =>
    if k = 3 then (Lib.itoa x).length else if k = 4 then (qT s).length else if k = 5 ∨ k = 6 then 2 + (its.length - 1) + nameSum ns + lenTL its else if k = 1 then 5 else 4
def lenTL : List Tr → Nat
  | [] => 0
  | t :: ts => lenT t + lenTL ts
end
theorem nameSum_snoc : (l : List ByteArray) → (u : ByteArray) → nameSum (l ++ [u]) = nameSum l + ((qT u).length + 1)
  | [], u => by simp [nameSum]
  | t :: ts, u => by simp only [List.cons_append, nameSum, nameSum_snoc ts u]; omega
theorem nameSum_take : (l : List ByteArray) → (q : Nat) → nameSum (l.take q) ≤ nameSum l
  | [], q => by simp
  | t :: ts, 0 => by simp [nameSum]
  | t :: ts, q + 1 => by simp only [List.take_succ_cons, nameSum]; have := nameSum_take ts q; omega
theorem nameSum_step {l : List ByteArray} {q : Nat} {u : ByteArray} (h : l[q]? = some u) : nameSum (l.take (q + 1)) = nameSum (l.take q) + ((qT u).length + 1) := by
  rw [List.take_add_one, h]
  exact nameSum_snoc _ u
theorem lenTL_snoc : (l : List Tr) → (u : Tr) → lenTL (l ++ [u]) = lenTL l + lenT u
  | [], u => by simp [lenTL]
  | t :: ts, u => by simp only [List.cons_append, lenTL, lenTL_snoc ts u]; omega
theorem lenTL_take : (l : List Tr) → (q : Nat) → lenTL (l.take q) ≤ lenTL l
  | [], q => by simp
  | t :: ts, 0 => by simp [lenTL]
  | t :: ts, q + 1 => by simp only [List.take_succ_cons, lenTL]; have := lenTL_take ts q; omega
theorem lenTL_step {l : List Tr} {q : Nat} {u : Tr} (h : l[q]? = some u) : lenTL (l.take (q + 1)) = lenTL (l.take q) + lenT u := by
  rw [List.take_add_one, h]
  exact lenTL_snoc _ u
theorem lenTL_at {l : List Tr} {q : Nat} {u : Tr} (h : l[q]? = some u) : lenT u ≤ lenTL l := by
  have h1 := lenTL_step h
  have h2 := lenTL_take l (q + 1)
  omega

/-- What the walk asks of the items. -/
def LenOks (its : List Tr) : Prop := ∀ (i : Nat) (u : Tr), its[i]? = some u → ∀ (cs : List Value) (w : World), VRep w u cs → EnvP w →
  Calls Tryz.prog 30 #[.agg cs.toArray] w fun e w' => e = .returned (.int .i64 (lenT u : Int)) ∧ Below w.heap.size w w'

set_option maxHeartbeats 4000000 in
set_option maxRecDepth 100000 in
theorem nest_code (k x : Int) (s : ByteArray) (an : Option Addr) (cn : Nat) (ns : List ByteArray) (ai : Option Addr) (ci : Nat) (its : List Tr) (w : World) (hnl : ns.length ≤ 8796093021952) (hml : its.length ≤ 8796093021952) (hz : Hid (∀ n ∈ ns, okS n)) (hT : 2 + (its.length - 1) + nameSum ns + lenTL its ≤ 9000000000000000000)
    (hR : Hid (Reads w (.slice an ns.length cn) ns)) (hL : Hid (ItemsAt' w ai its)) (hE : Hid (EnvP w)) (hI : Hid (LenOks its)) :
    Calls Tryz.prog 46 #[.agg #[.int .i64 k, .int .i64 x, .string s, .slice an ns.length cn, .slice ai its.length ci]] w fun e w' => e = .returned (.int .i64 ((2 + (its.length - 1) + nameSum ns + lenTL its : Nat) : Int)) ∧ Below w.heap.size w w' := by
  have h8 := hE.out.big
  have HB0 : Hid (Below (w.alloc (.cells #[.int .i64 k, .int .i64 x, .string s, .slice an ns.length cn, .slice ai its.length ci] 25)).heap.size (w.alloc (.cells #[.int .i64 k, .int .i64 x, .string s, .slice an ns.length cn, .slice ai its.length ci] 25)) (w.alloc (.cells #[.int .i64 k, .int .i64 x, .string s, .slice an ns.length cn, .slice ai its.length ci] 25))) := Below.refl _ _
  obtain ⟨c, hc⟩ : ∃ c : Nat, Hid (2 + (its.length - 1) + nameSum ns + lenTL its = c) := ⟨_, hid_e rfl⟩
  rw [hc.out] at hT ⊢
  go_enter Tryz.func46, Tryz.ntmps46
  go_wp2_with fail
  go_loopw [3, 18] (fun m i wr => ∃ q : Nat, q ≤ ns.length ∧ i = .int .i64 q ∧ m = .int .i64 ((2 + (its.length - 1) + nameSum (ns.take q) : Nat) : Int) ∧ Below (w.alloc (.cells #[.int .i64 k, .int .i64 x, .string s, .slice an ns.length cn, .slice ai its.length ci] 25)).heap.size (w.alloc (.cells #[.int .i64 k, .int .i64 x, .string s, .slice an ns.length cn, .slice ai its.length ci] 25)) wr) (fun _ i wr => ns.length - (intOf i).toNat)
  case atStart => exact ⟨0, Nat.zero_le _, rfl, congrArg (Value.int .i64) (by simp only [List.take_zero, nameSum]; omega), HB0.out⟩
  case round =>
    obtain ⟨q, hq, rfl, rfl, hbx⟩ := hrel
    have hbw := below_box hbx
    by_cases hlt : q < ns.length
    · obtain ⟨nm, hnm⟩ : ∃ u, Hid (ns[q]? = some u) := ⟨_, hid_e (List.getElem?_eq_getElem hlt)⟩
      have ho := hid_e (hz.out nm (List.mem_of_getElem? hnm.out))
      obtain ⟨an0, cn0, hane, -, hrd⟩ := hR.out
      obtain ⟨gn, on, rfl, -, hrd⟩ := hrd.resolve_left (by intro e; subst e; simp at hlt)
      simp only [Value.slice.injEq] at hane
      obtain ⟨rfl, -, -⟩ := hane
      have nc := stay hbw (hrd q nm hnm.out)
      have hst := nameSum_step hnm.out
      have hle := nameSum_take ns (q + 1)
      have hcc := hc.out
      have b1 : ((2 + (its.length - 1) + nameSum (ns.take q) : Nat) : Int) + (((qT nm).length : Int) + 1) ≤ 9000000000000000000 := by omega
      have b3 : (0 : Int) ≤ ((2 + (its.length - 1) + nameSum (ns.take q) : Nat) : Int) := by omega
      have b4 : (0 : Int) ≤ ((qT nm).length : Int) := by omega
      have HE : Hid (((2 + (its.length - 1) + nameSum (ns.take q) : Nat) : Int) + (((qT nm).length : Int) + 1) = ((2 + (its.length - 1) + nameSum (ns.take (q + 1)) : Nat) : Int)) := by unfold Hid; omega
      have i1 : (q : Int) < (ns.length : Int) := by omega
      have hsz := hbx.size
      clear hst hle hrd hcc
      generalize (2 + (its.length - 1) + nameSum (ns.take q) : Nat) = tt at *
      go_wp2_with fail
      refine (qlen_big nm ho.out wr).mono ?_
      rintro e w2 ⟨rfl, hb2⟩
      have hbx2 := hbx.trans (hb2.mono hsz)
      clear hb2 nc
      generalize (qT nm).length = ql at *
      go_wp2_with fail
      go_roundw
      case rel => exact ⟨q + 1, by omega, by go_num, congrArg (Value.int .i64) HE.out, hbx2⟩
      case measure => simp [intOf]; omega
    · obtain rfl : q = ns.length := by omega
      rw [List.take_length]
      clear hlt hq
      have y4 : wr.cell? ⟨w.heap.size, 4, none⟩ = some (.slice ai its.length ci) := box_cells hbx 4
      go_wp2_with fail
      clear y4
      go_loopw [3, 31] (fun m i wr => ∃ p : Nat, p ≤ its.length ∧ i = .int .i64 p ∧ m = .int .i64 ((2 + (its.length - 1) + nameSum ns + lenTL (its.take p) : Nat) : Int) ∧ Below w.heap.size w wr) (fun _ i wr => its.length - (intOf i).toNat)
      case atStart => exact ⟨0, Nat.zero_le _, rfl, congrArg (Value.int .i64) (by simp only [List.take_zero, lenTL]; omega), hbw⟩
      case round =>
        clear hbw hbx
        obtain ⟨p, hp, rfl, rfl, hbw⟩ := hrel
        by_cases hlt : p < its.length
        · obtain ⟨u, hu⟩ : ∃ u, Hid (its[p]? = some u) := ⟨_, hid_e (List.getElem?_eq_getElem hlt)⟩
          obtain ⟨b, o, rfl, hb, hV⟩ := hL.out.resolve_left (by intro e; subst e; simp at hlt)
          obtain ⟨cs, hCs, hr⟩ := VRepL.at its o p u hV hu.out
          obtain ⟨k2, x2, s2, an2, ln2, cn2, ai2, li2, ci2, rfl⟩ := vrep_five hr
          have z0 := stay hbw (hCs 0 _ rfl)
          have z1 := stay hbw (hCs 1 _ rfl)
          have z2 := stay hbw (hCs 2 _ rfl)
          have z3 := stay hbw (hCs 3 _ rfl)
          have z4 := stay hbw (hCs 4 _ rfl)
          simp only [Nat.add_zero] at z0
          have hsz := hbw.size
          have hcall := fun ob => hid_e (hI.out p u hu.out _ (wr.alloc ob) (VRep.keep (hbw.alloc hsz ob) _ _ hr) (hE.out.below (hbw.alloc hsz ob) h8))
          have hst := lenTL_step hu.out
          have hle := lenTL_take its (p + 1)
          have hcc := hc.out
          have b1 : ((2 + (its.length - 1) + nameSum ns + lenTL (its.take p) : Nat) : Int) + (lenT u : Int) ≤ 9000000000000000000 := by omega
          have b3 : (0 : Int) ≤ ((2 + (its.length - 1) + nameSum ns + lenTL (its.take p) : Nat) : Int) := by omega
          have b4 : (0 : Int) ≤ (lenT u : Int) := by omega
          have HE : Hid (((2 + (its.length - 1) + nameSum ns + lenTL (its.take p) : Nat) : Int) + (lenT u : Int) = ((2 + (its.length - 1) + nameSum ns + lenTL (its.take (p + 1)) : Nat) : Int)) := by unfold Hid; omega
          have i1 : (p : Int) < (its.length : Int) := by omega
          clear hst hle hcc hV hCs hr
          generalize (2 + (its.length - 1) + nameSum ns + lenTL (its.take p) : Nat) = tt at *
          generalize lenT u = fp at *
          go_wp2_with fail
          go_fit (hcall _).out
          rintro e w3 ⟨rfl, hb3⟩
          have hbw3 : Below w.heap.size w w3 := (hbw.alloc hsz _).trans (hb3.mono (by rw [World.size_alloc]; omega))
          clear hb3 hcall z0 z1 z2 z3 z4
          go_wp2_with fail
          go_roundw
          case rel => exact ⟨p + 1, by omega, by go_num, congrArg (Value.int .i64) HE.out, hbw3⟩
          case measure => simp [intOf]; omega
        · obtain rfl : p = its.length := by omega
          have hcc := hid_e (by rw [List.take_length]; exact hc.out : 2 + (its.length - 1) + nameSum ns + lenTL (its.take its.length) = c)
          clear hlt hp
          go_wp2_with fail
          go_ret
          exact ⟨ret_int (by rw [hcc.out]), hbw⟩
end Go.Proofs.YtnccaidlcaeeaaaGreatDoor.Tree
