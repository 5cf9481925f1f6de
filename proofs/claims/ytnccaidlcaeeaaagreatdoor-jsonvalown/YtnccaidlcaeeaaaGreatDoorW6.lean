import Derived.Test.YtnccaidlcaeeaaaGreatDoorW5
import Derived.Maps.OwnSet
import Derived.Maps.AppendAt
namespace Go.Proofs.YtnccaidlcaeeaaaGreatDoor
open Go Go.RowKit Go.Maps

def keyL (s : ByteArray) : Lit := .string s.data.toList
/-- The map at block m holds these names. -/
def SetAt (m : Nat) (ns : List ByteArray) (w : World) : Prop := w.ownsMap Tryz.prog 9 (unitElem (H := Unit)) m ns.length (setOf (.agg []) (ns.map keyL))
theorem law9 : Keyed Tryz.prog 9 := string_keyed Tryz.underlying9
theorem zero103 (w : World) : (zeroValue 126).run Tryz.prog w = .ok (.agg #[]) w := by simp
theorem key_str (s : ByteArray) (hs : s.size ≤ 65536) : keyOf Tryz.prog 9 (.string s) = some (keyL s) := by
  unfold keyOf
  rw [Tryz.underlying9]
  have : s.size ≤ maxLen := by unfold maxLen; omega
  simp [mapKey, Tryz.underlying9, keyL, this]
theorem toList_eq (a b : Array UInt8) : (a.toList == b.toList) = decide (a = b) := by
  rw [Bool.eq_iff_iff]; simp
theorem has_set (ns : List ByteArray) (s : ByteArray) : Maps.has (setOf (H := Unit) (.agg []) (ns.map keyL)) (keyL s) = hasName ns s := by
  rw [has_setOf _ _ _ (by intro x hx; obtain ⟨t, _, rfl⟩ := List.mem_map.1 hx; trivial)]
  unfold hasName
  rw [List.any_map]
  congr 1
  funext t
  exact toList_eq t.data s.data
theorem SetAt.keep {m : Nat} {ns : List ByteArray} {w w' : World} (h : SetAt m ns w) (hk : w'.heap[m]? = w.heap[m]?) : SetAt m ns w' := by
  obtain ⟨es, c, h1, h2⟩ := h
  exact ⟨es, c, by rw [hk]; exact h1, h2⟩
theorem SetAt.lt {m : Nat} {ns : List ByteArray} {w : World} (h : SetAt m ns w) : m < w.heap.size := by
  obtain ⟨es, c, h1, h2⟩ := h
  exact (Array.getElem?_eq_some_iff.1 h1).1

set_option maxHeartbeats 800000 in
theorem add_old (m : Nat) (ns : List ByteArray) (s : ByteArray) (hs : s.size ≤ 65536) (w : World) (hS : SetAt m ns w) (hh : hasName ns s = true) :
    Calls Tryz.prog 94 #[.map (some m), .string s] w fun e w' => e = .returned (.bool false) ∧ Below w.heap.size w w' := by
  have hown : w.ownsMap Tryz.prog 9 (unitElem (H := Unit)) m ns.length (setOf (.agg []) (ns.map keyL)) := hS
  have hkey := key_str s hs
  have hhas := has_set ns s
  rw [hh] at hhas
  clear hS hh
  go_enter Tryz.func94, Tryz.ntmps94
  go_wp2_with (at_lookup; refine wpList_lookup_own_unit _ rfl _ _ 105 rfl 9 126 law9 Tryz.underlying105 (zero103 _) m ns.length _ rfl hown _ _ rfl hkey ?_)
  go_ret
  exact ⟨rfl, (Below.refl _ _).alloc (Nat.le_refl _) _⟩
set_option maxHeartbeats 800000 in
theorem add_new (m : Nat) (ns : List ByteArray) (s : ByteArray) (hs : s.size ≤ 65536) (w : World) (hS : SetAt m ns w) (hl : ns.length ≤ 100000) (hh : hasName ns s = false) :
    Calls Tryz.prog 94 #[.map (some m), .string s] w fun e w' => e = .returned (.bool true) ∧ SetAt m (ns ++ [s]) w' ∧ Kp m w w' := by
  have hown : w.ownsMap Tryz.prog 9 (unitElem (H := Unit)) m ns.length (setOf (.agg []) (ns.map keyL)) := hS
  have hkey := key_str s hs
  have hhas := has_set ns s
  rw [hh] at hhas
  clear hS hh
  go_enter Tryz.func94, Tryz.ntmps94
  go_wp2_with (first
    | (at_lookup; refine wpList_lookup_own_unit _ rfl _ _ 105 rfl 9 126 law9 Tryz.underlying105 (zero103 _) m ns.length _ rfl hown _ _ rfl hkey ?_)
    | (at_mapUpdate; refine wpList_mapUpdate_own _ rfl _ _ _ 105 rfl 9 126 law9 Tryz.underlying105 (unitElem (H := Unit)) m ns.length _ rfl (hown.alloc _) (by unfold maxLen; omega) _ _ _ rfl rfl hkey _ [] unitElem_mk ?_; intro w1 hown1 hgrow1))
  go_ret
  refine ⟨rfl, ?_, ?_⟩
  · unfold SetAt
    rw [List.map_append, List.map_cons, List.map_nil, setOf_snoc, List.length_append]
    exact hown1
  · exact ((Kp.refl _ _).alloc _).trans ⟨hgrow1.os, hgrow1.tape, hgrow1.output, hgrow1.size, fun k hk hm => hgrow1.block k hk (by simp; exact hm)⟩

/-- What the reader of texts is held to. -/
def QPost (b : Nat) (T : ByteArray) (n : Nat) (w : World) (e : Ending) (w' : World) : Res ByteArray → Prop
  | .ok s n' => e = .returned (.string s) ∧ s.size ≤ 65536 ∧ At b T n' w' ∧ Kp b w w' ∧ n < n' ∧ n' ≤ T.size
  | .bad er p => e = .panicked (faultC er p) ∧ Kp b w w'
def QuotedOk (T : ByteArray) (tx : Nat → Res ByteArray) : Prop :=
  ∀ (b n : Nat) (w : World), At b T n w → Env w → 8 ≤ b → n < T.size → byteAt T n = 34 → Calls Tryz.prog 66 #[.pointer (some ⟨b, 0, none⟩)] w fun e w' => QPost b T n w e w' (tx n)

/-- All that was there is as it was, but for blocks b and m. -/
structure Kp2 (b m : Nat) (w w' : World) : Prop where
  os : w'.os = w.os
  tape : w'.tape = w.tape
  output : w'.output = w.output
  size : w.heap.size ≤ w'.heap.size
  block : ∀ k, k < w.heap.size → k ≠ b → k ≠ m → w'.heap[k]? = w.heap[k]?
theorem Kp2.refl (b m : Nat) (w : World) : Kp2 b m w w := ⟨rfl, rfl, rfl, Nat.le_refl _, fun _ _ _ _ => rfl⟩
theorem Kp2.trans {b m : Nat} {x y z : World} (h : Kp2 b m x y) (k : Kp2 b m y z) : Kp2 b m x z :=
  ⟨k.os.trans h.os, k.tape.trans h.tape, k.output.trans h.output, Nat.le_trans h.size k.size,
    fun i hi hb hm => (k.block i (Nat.lt_of_lt_of_le hi h.size) hb hm).trans (h.block i hi hb hm)⟩
theorem Kp2.l {b m : Nat} {x y : World} (h : Kp b x y) : Kp2 b m x y := ⟨h.os, h.tape, h.output, h.size, fun i hi hb _ => h.block i hi hb⟩
theorem Kp2.r {b m : Nat} {x y : World} (h : Kp m x y) : Kp2 b m x y := ⟨h.os, h.tape, h.output, h.size, fun i hi _ hm => h.block i hi hm⟩
theorem Kp2.drew {b m : Nat} {x w : World} (h : Kp2 b m x w) : Kp2 b m x w.drew := ⟨h.os, h.tape, h.output, h.size, h.block⟩

theorem nameFin_ok (T : ByteArray) (had : List ByteArray) (n : Nat) (s : ByteArray) (n' : Nat) : nameFin T had n (.ok s n') =
    if hasName had s = true then .bad 16 n
    else if skip T n' < T.size then
      if byteAt T (skip T n') = 58 then .ok s (skip T (skip T n' + 1)) else .bad 10 (skip T n')
    else .bad 3 T.size := rfl
def NmPost (b m : Nat) (T : ByteArray) (n : Nat) (ns : List ByteArray) (w : World) (e : Ending) (w' : World) : Res ByteArray → Prop
  | .ok s n' => e = .returned (.string s) ∧ s.size ≤ 65536 ∧ At b T n' w' ∧ SetAt m (ns ++ [s]) w' ∧ Kp2 b m w w' ∧ n < n' ∧ n' ≤ T.size
  | .bad er p => e = .panicked (faultC er p) ∧ Kp2 b m w w'

set_option maxHeartbeats 1000000 in
theorem name_any (b m n : Nat) (T : ByteArray) (tx : Nat → Res ByteArray) (hQ : QuotedOk T tx) (ns : List ByteArray) (w : World) (hA : At b T n w) (hE : Env w) (hb8 : 8 ≤ b) (hbm : m ≠ b) (hS : SetAt m ns w) (hl : ns.length ≤ 100000) (hn : n ≤ T.size) (hT : T.size ≤ 65536) :
    Calls Tryz.prog 90 #[.pointer (some ⟨b, 0, none⟩), .map (some m)] w fun e w' => NmPost b m T n ns w e w' (nameR T tx ns n) := by
  have h0 := hA.c0
  have h1 := hA.c1
  by_cases hlt : n < T.size
  · by_cases hc : byteAt T n = 34
    · have hceq : (((byteAt T n).toNat : Int) != 34) = false := by rw [hc]; rfl
      have HN : Hid (nameR T tx ns n = nameFin T ns n (tx n)) := by unfold Hid nameR; rw [if_pos hlt, if_pos hc]
      have HC : Hid (byteAt T n = 34) := hc
      clear hc
      go_enter Tryz.func90, Tryz.ntmps90
      go_wp2_with fail
      refine (here_ok b n T _ h0 h1 hlt).mono ?_
      rintro e w1 ⟨rfl, rfl⟩
      go_wp2_with fail
      refine (hQ b n w.drew.drew hA hE.drew.drew hb8 hlt HC.out).mono ?_
      intro e w1 hq
      have HN' := HN.out
      cases htx : tx n with
      | bad er p =>
        rw [htx] at hq HN'
        obtain ⟨rfl, hK⟩ := hq
        have HG : Hid (nameR T tx ns n = .bad er p) := HN'
        clear HN HN' htx
        go_wp2_with fail
        refine ⟨rfl, ?_⟩
        rw [HG.out]
        exact ⟨rfl, Kp2.l (((Kp.refl _ _).drew.drew).trans hK)⟩
      | ok s n1 =>
        rw [htx] at hq HN'
        obtain ⟨rfl, hs, hA1, hK1, hn1, hn2⟩ := hq
        have HG : Hid (nameR T tx ns n = _) := HN'
        have hK1' : Kp2 b m w w1 := Kp2.l (((Kp.refl _ _).drew.drew).trans hK1)
        have hS1 : SetAt m ns w1 := hS.keep (hK1.block m hS.lt hbm)
        clear HN HN' htx hK1 HC
        cases hh : hasName ns s with
        | true =>
          have HG' : Hid (nameR T tx ns n = .bad 16 n) := by have := HG.out; rw [nameFin_ok, if_pos hh] at this; exact this
          clear HG
          go_wp2_with fail
          refine (add_old m ns s hs _ hS1 hh).mono ?_
          rintro e w2 ⟨rfl, hb2⟩
          go_wp2_with fail
          refine ⟨rfl, ?_⟩
          rw [HG'.out]
          exact ⟨rfl, hK1'.trans (Kp2.l (Kp.below hb2))⟩
        | false =>
          have HG' : Hid (nameR T tx ns n = if skip T n1 < T.size then (if byteAt T (skip T n1) = 58 then .ok s (skip T (skip T n1 + 1)) else .bad 10 (skip T n1)) else .bad 3 T.size) := by have := HG.out; rw [nameFin_ok, if_neg (by rw [hh]; simp)] at this; exact this
          clear HG
          go_wp2_with fail
          refine (add_new m ns s hs _ hS1 hl hh).mono ?_
          rintro e w2 ⟨rfl, hS2, hK2⟩
          have hA2 : At b T n1 w2 := (hK2.block b hA1.lt (Ne.symm hbm)).trans hA1
          have hK2' := hK1'.trans (Kp2.r hK2)
          clear hK1' hK2 hS1 hA1 hh
          go_wp2_with fail
          refine (blanks_any b n1 T _ hA2 hn2 hT).mono ?_
          rintro e w3 ⟨rfl, hA3, hK3, _, hb3, hb4⟩
          have hS3 : SetAt m (ns ++ [s]) w3 := hS2.keep (hK3.block m hS2.lt hbm)
          have hK3' := hK2'.trans (Kp2.l hK3)
          clear hK2' hK3 hS2 hA2
          generalize skip T n1 = m3 at *
          have q0 := hA3.c0
          have q1 := hA3.c1
          have qf := hA3.fz 1
          by_cases hl3 : m3 < T.size
          · by_cases hc3 : byteAt T m3 = 58
            · have HG2 : Hid (nameR T tx ns n = .ok s (skip T (m3 + 1))) := by have := HG'.out; rw [if_pos hl3, if_pos hc3] at this; exact this
              have HC3 : Hid (byteAt T m3 = 58) := hc3
              clear HG' hc3
              go_wp2_with fail
              refine (pass_ok b m3 T 58 w3 q0 q1 qf hl3 hT HC3.out).mono ?_
              rintro e w4 ⟨rfl, rfl⟩
              have hA4 : At b T (m3 + 1) (w3.setCell ⟨b, 1, none⟩ (.int .i64 ((m3 : Int) + 1))).drew.drew := hA3.set _ (m3 + 1) (by omega)
              have hK4 : Kp b w3 (w3.setCell ⟨b, 1, none⟩ (.int .i64 ((m3 : Int) + 1))).drew.drew := ((Kp.refl _ _).setCell _ _).drew.drew
              have hS4 : SetAt m (ns ++ [s]) (w3.setCell ⟨b, 1, none⟩ (.int .i64 ((m3 : Int) + 1))).drew.drew := hS3.keep (hK4.block m hS3.lt hbm)
              have hK4' := hK3'.trans (Kp2.l hK4)
              clear hK4
              go_wp2_with fail
              refine (blanks_any b (m3 + 1) T _ hA4 (by omega) hT).mono ?_
              rintro e w5 ⟨rfl, hA5, hK5, _, hb5, hb6⟩
              have hS5 : SetAt m (ns ++ [s]) w5 := hS4.keep (hK5.block m hS4.lt hbm)
              have hK5' := hK4'.trans (Kp2.l hK5)
              clear hK4' hK5 hS4 hA4
              generalize skip T (m3 + 1) = m5 at *
              go_wp2_with fail
              go_ret
              rw [HG2.out]
              exact ⟨rfl, hs, hA5, hS5, hK5', by omega, by omega⟩
            · have HG2 : Hid (nameR T tx ns n = .bad 10 m3) := by have := HG'.out; rw [if_pos hl3, if_neg hc3] at this; exact this
              have HC3 : Hid (byteAt T m3 ≠ 58) := hc3
              clear HG' hc3
              go_wp2_with fail
              refine (pass_bad b m3 T 58 w3 q0 q1 hl3 HC3.out).mono ?_
              rintro e w4 ⟨rfl, rfl⟩
              go_wp2_with fail
              refine ⟨rfl, ?_⟩
              rw [HG2.out]
              exact ⟨rfl, hK3'.drew.drew⟩
          · have hme : m3 = T.size := by omega
            have HG2 : Hid (nameR T tx ns n = .bad 3 T.size) := by have := HG'.out; rw [if_neg hl3] at this; exact this
            subst hme
            clear HG' hl3
            go_wp2_with fail
            refine (pass_short b T 58 w3 q0 q1).mono ?_
            rintro e w4 ⟨rfl, rfl⟩
            go_wp2_with fail
            refine ⟨rfl, ?_⟩
            rw [HG2.out]
            exact ⟨rfl, hK3'.drew⟩
    · have hceq : (((byteAt T n).toNat : Int) != 34) = true := by
        have := u8_beq (byteAt T n) 34
        have h34 : ((34 : UInt8).toNat : Int) = 34 := rfl
        rw [h34] at this
        simp only [bne, this]; simpa using hc
      have HG : Hid (nameR T tx ns n = .bad 10 n) := by unfold Hid nameR; rw [if_pos hlt, if_neg hc]
      clear hc
      go_enter Tryz.func90, Tryz.ntmps90
      go_wp2_with fail
      refine (here_ok b n T _ h0 h1 hlt).mono ?_
      rintro e w1 ⟨rfl, rfl⟩
      go_wp2_with fail
      refine ⟨rfl, ?_⟩
      rw [HG.out]
      exact ⟨rfl, (Kp2.refl _ _ _).drew.drew⟩
  · have hne : n = T.size := by omega
    have HG : Hid (nameR T tx ns n = .bad 3 T.size) := by unfold Hid nameR; rw [if_neg hlt]
    subst hne
    clear hlt
    go_enter Tryz.func90, Tryz.ntmps90
    go_wp2_with fail
    refine (here_short b T _ h0 h1).mono ?_
    rintro e w1 ⟨rfl, rfl⟩
    go_wp2_with fail
    refine ⟨rfl, ?_⟩
    rw [HG.out]
    exact ⟨rfl, (Kp2.refl _ _ _).drew⟩
end Go.Proofs.YtnccaidlcaeeaaaGreatDoor
