import Derived.Test.YtnhijkmddfhcbaaGreatDoorW17
namespace Go.Proofs.YtnhijkmddfhcbaaGreatDoor
open Go Go.RowKit Go.Maps

def nth (ns : List ByteArray) (i : Nat) : ByteArray := ns.getD i noS
theorem take_nth (ns : List ByteArray) (i : Nat) (h : i < ns.length) : ns.take (i + 1) = ns.take i ++ [nth ns i] := by
  rw [List.take_succ_eq_append_getElem h]
  unfold nth
  rw [List.getD_eq_getElem?_getD, List.getElem?_eq_getElem h]; rfl
def NamesGood (ns : List ByteArray) : Prop := ∀ i, i < ns.length → (nth ns i).size ≤ 65536 ∧ Lib.validD (nth ns i).data.toList = true ∧ hasName (ns.take i) (nth ns i) = false

theorem make_hint (n : Int) (w : World) : (Instr.makeMap 90 (some (.int .i64 n))).run Tryz.prog w = .ok (.map (some w.heap.size)) (w.alloc (.map #[] 0)) := by
  simp [Instr.makeMap, asInt, go_sem]
set_option maxHeartbeats 2000000 in
theorem members_some (ns : List ByteArray) (gn cn g n c2 : Nat) (d : Int) (w : World) (h8 : 8 ≤ w.heap.size) (hU : Lib.Utf8Tabs 1 2 w) (hgn : gn < w.heap.size) (hg : g < w.heap.size) (hnl : ns.length = n) (hn : n ≤ 65536) (hd0 : 0 ≤ d) (hd1 : d ≤ 100)
    (hN : Hid (NamesGood ns)) (hNc : Hid (∀ i, i < n → w.cell? ⟨gn, i, none⟩ = some (.string (nth ns i))))
    (hIt : Hid (ItemsGood 29 #[.int .i64 (d + 1)] (fun _ => .int .i64 0) w g n)) :
    Calls Tryz.prog 49 #[.agg #[.int .i64 6, .int .i64 0, .string noS, .slice (some ⟨gn, 0, none⟩) n cn, .slice (some ⟨g, 0, none⟩) n c2], .int .i64 d] w fun e w' => e = .returned (.int .i64 0) ∧ Below w.heap.size w w' := by
  have hmm := make_hint
  have hw0 : (0 : Int) ≤ (n : Int) := by omega
  have HNL : Hid (ns.length = n) := hnl
  clear hnl
  go_enter Tryz.func49, Tryz.ntmps49
  go_wp2_with fail
  have hS0 : Hid (SetAt (w.heap.size + 1) [] ((w.alloc (.cells #[.int .i64 6, .int .i64 0, .string noS, .slice (some ⟨gn, 0, none⟩) n cn, .slice (some ⟨g, 0, none⟩) n c2] 26)).alloc (.map #[] 0))) := by
    have h0 : SetAt (w.alloc (.cells #[.int .i64 6, .int .i64 0, .string noS, .slice (some ⟨gn, 0, none⟩) n cn, .slice (some ⟨g, 0, none⟩) n c2] 26)).heap.size [] ((w.alloc (.cells #[.int .i64 6, .int .i64 0, .string noS, .slice (some ⟨gn, 0, none⟩) n cn, .slice (some ⟨g, 0, none⟩) n c2] 26)).alloc (.map #[] 0)) := World.ownsMap_made _ _ _ _
    rw [World.size_alloc] at h0
    exact h0
  go_loopw [16] (fun i wr => ∃ q : Nat, q ≤ n ∧ i = .int .i64 q ∧ Below w.heap.size w wr ∧ wr.heap[w.heap.size]? = some (.cells #[.int .i64 6, .int .i64 0, .string noS, .slice (some ⟨gn, 0, none⟩) n cn, .slice (some ⟨g, 0, none⟩) n c2] 26 (0, 0)) ∧ SetAt (w.heap.size + 1) (ns.take q) wr) (fun i wr => n - (intOf i).toNat)
  case atStart => exact ⟨0, Nat.zero_le _, rfl, ((Below.refl _ _).alloc (Nat.le_refl _) _).alloc (by simp) _, (alloc_old (by simp)).trans (heap_alloc_new w _), hS0.out⟩
  case round =>
    clear hS0
    obtain ⟨q, hq, rfl, hbw, hbox, hSet⟩ := hrel
    have hsz := hbw.size
    have hslt := hSet.lt
    by_cases hlt : q < n
    · obtain ⟨kd2, x2, s2, a12, l12, c12, a22, l22, c22, hia, hcall⟩ := hIt.out q hlt
      have HIA : Hid (ItemAt w g q kd2 x2 s2 a12 l12 c12 a22 l22 c22) := hia
      have HC : Hid (∀ w', Below w.heap.size w w' → Calls Tryz.prog 29 (#[.agg #[.int .i64 kd2, .int .i64 x2, .string s2, .slice a12 l12 c12, .slice a22 l22 c22]] ++ #[.int .i64 (d + 1)]) w' fun e w'' => e = .returned (.int .i64 0) ∧ Below w'.heap.size w' w'') := hcall
      have nc : wr.cell? ⟨gn, q, none⟩ = some (.string (nth ns q)) := (World.cell?_of_block (w := w) (a := ⟨gn, q, none⟩) (hbw.block gn hgn)).trans (hNc.out q hlt)
      have HN := hN.out q (by rw [HNL.out]; exact hlt)
      have HSz : (nth ns q).size ≤ 65536 := HN.1
      have HVd : Hid (Lib.validD (nth ns q).data.toList = true) := HN.2.1
      have HHs : Hid (hasName (ns.take q) (nth ns q) = false) := HN.2.2
      have HTk : Hid (ns.take (q + 1) = ns.take q ++ [nth ns q]) := take_nth ns q (by rw [HNL.out]; exact hlt)
      have HBX : Hid (wr.heap[w.heap.size]? = some (.cells #[.int .i64 6, .int .i64 0, .string noS, .slice (some ⟨gn, 0, none⟩) n cn, .slice (some ⟨g, 0, none⟩) n c2] 26 (0, 0))) := hbox
      have i1 : (q : Int) < (n : Int) := by omega
      have hUr := utf_below hU hbw h8
      have htl : (ns.take q).length ≤ 100000 := by rw [List.length_take]; omega
      clear hcall hia HN hbox
      generalize nth ns q = nm at *
      go_wp2_with fail
      refine (Tryz.valid nm wr (by omega) hUr).mono ?_
      rintro e w2 ⟨rfl, hb2⟩
      rw [HVd.out]
      have hSet2 : SetAt (w.heap.size + 1) (ns.take q) w2 := hSet.keep (hb2.block _ hslt)
      go_wp2_with fail
      refine (add_new (w.heap.size + 1) (ns.take q) nm HSz w2 hSet2 htl HHs.out).mono ?_
      rintro e w3 ⟨rfl, hSet3, hK3⟩
      have hs2 := hb2.size
      have hs3 := hK3.size
      have hbox3 : w3.heap[w.heap.size]? = some (.cells #[.int .i64 6, .int .i64 0, .string noS, .slice (some ⟨gn, 0, none⟩) n cn, .slice (some ⟨g, 0, none⟩) n c2] 26 (0, 0)) := (hK3.block w.heap.size (by omega) (by omega)).trans ((hb2.block w.heap.size (by omega)).trans HBX.out)
      have hbw3 : Below w.heap.size w w3 := hbw.trans ⟨hK3.os.trans hb2.os, hK3.tape.trans hb2.tape, hK3.output.trans hb2.output, by omega, fun k hk => (hK3.block k (by omega) (by omega)).trans (hb2.block k (by omega))⟩
      have y4 : w3.cell? ⟨w.heap.size, 4, none⟩ = some (.slice (some ⟨g, 0, none⟩) n c2) := cell_of hbox3 4
      have HB3 : Hid (w3.heap[w.heap.size]? = some (.cells #[.int .i64 6, .int .i64 0, .string noS, .slice (some ⟨gn, 0, none⟩) n cn, .slice (some ⟨g, 0, none⟩) n c2] 26 (0, 0))) := hbox3
      obtain ⟨z0, z1, z2, z3, z4⟩ := HIA.out.keep (hbw3.block g hg)
      clear hbox3 hSet hSet2 hb2 hK3 HBX hbw hUr nc
      go_wp2_with fail
      refine (HC.out _ hbw3).mono ?_
      rintro e w4 ⟨rfl, hb4⟩
      have hslt3 := hSet3.lt
      have hSet4 : SetAt (w.heap.size + 1) (ns.take (q + 1)) w4 := by rw [HTk.out]; exact hSet3.keep (hb4.block _ hslt3)
      have hbw4 : Below w.heap.size w w4 := hbw3.trans (hb4.mono (by omega))
      have hbox4 := (hb4.block w.heap.size (by omega)).trans HB3.out
      have HB4 : Hid (w4.heap[w.heap.size]? = some (.cells #[.int .i64 6, .int .i64 0, .string noS, .slice (some ⟨gn, 0, none⟩) n cn, .slice (some ⟨g, 0, none⟩) n c2] 26 (0, 0))) := hbox4
      clear hbox4 hb4 HC z0 z1 z2 z3 z4 y4
      go_wp2_with fail
      go_roundw
      case rel => exact ⟨q + 1, by omega, by go_num, hbw4, HB4.out, hSet4⟩
      case measure => simp [intOf]; omega
    · go_wp2_with fail
      go_ret
      exact ⟨rfl, hbw⟩
end Go.Proofs.YtnhijkmddfhcbaaGreatDoor
