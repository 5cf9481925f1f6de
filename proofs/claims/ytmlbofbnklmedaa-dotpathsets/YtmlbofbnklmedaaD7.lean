import Derived.Test.YtmlbofbnklmedaaD5
import Derived.Deep.RegionWith
import Derived.Deep.DeepFit
/-! Set, of an empty object. -/
namespace Go.Proofs.Ytmlbofbnklmedaa
open Go Go.RowKit

theorem seen_in {W : World} {n m : Nat} {t : Tr} {cs : List Value} (h : Seen W (fun k => k < n ∨ m < k) t cs) : Seen W (fun k => k < n ∨ (m < k ∧ k < W.heap.size)) t cs := fun W' a => h W' ⟨a.1, fun p u hp hc => a.2 p u (hp.imp id (fun h => ⟨h, cell_lt hc⟩)) hc⟩
theorem drew_below {w w' : World} (h : Below w.drew.heap.size w.drew w') : Below w.heap.size w w' := ⟨h.os, h.tape, h.output, h.size, h.block⟩
set_option maxHeartbeats 400000 in
set_option maxRecDepth 100000 in
theorem set_a (x : Int) (tx : ByteArray) (an : Option Addr) (cn : Nat) (ai : Option Addr) (ci : Nat) (k5 x5 : Int) (tx5 : ByteArray) (an5 : Option Addr) (ln5 cn5 : Nat) (ai5 : Option Addr) (li5 ci5 : Nat) (tX : Tr) (bp op cp : Nat) (s1 s2 : ByteArray) (h64 : s1.size ≤ 64) (hi : idx s1 = none) (hcn : cn ≤ 100) (hcp : 2 ≤ cp) (w : World) (hp0 : w.cell? ⟨bp, op, none⟩ = some (.string s1)) (hp1 : w.cell? ⟨bp, op + 1, none⟩ = some (.string s2)) (hV : VRep w tX (five k5 x5 tx5 (.slice an5 ln5 cn5) (.slice ai5 li5 ci5))) :
    Calls Try.prog 10 #[.agg #[.int .i64 6, .int .i64 x, .string tx, .slice an 0 cn, .slice ai 0 ci], .slice (some ⟨bp, op, none⟩) 2 cp, .agg #[.int .i64 k5, .int .i64 x5, .string tx5, .slice an5 ln5 cn5, .slice ai5 li5 ci5]] w fun e w' => Below w.heap.size w w' ∧ ∃ cs, e = .returned (.tuple #[.agg cs.toArray, .int .i64 0]) ∧ VRep w' (.node 6 0 ⟨#[]⟩ [s1] [.node 6 0 ⟨#[]⟩ [s2] [tX]]) cs := by
  have hdn : ∀ p1 p2 p3, Calls Try.prog 28 #[.agg #[.int .i64 6, .int .i64 x, .string tx, .slice an 0 cn, .slice ai 0 ci], .slice (some ⟨bp, op, none⟩) 2 cp] (((w.alloc p1).alloc p2).alloc p3) fun e w' => Below (((w.alloc p1).alloc p2).alloc p3).heap.size (((w.alloc p1).alloc p2).alloc p3) w' ∧ ∃ g cap, e = .returned (.tuple #[.slice (some ⟨g, 0, none⟩) 1 cap, .int .i64 0]) ∧ w'.ownsRow (((w.alloc p1).alloc p2).alloc p3).heap.size 63 7 (.slice (some ⟨g, 0, none⟩) 1 cap) 1 [.int .i64 6, .int .i64 x, .string tx, .slice an 0 cn, .slice ai 0 ci, .string s1, .int .i64 0] := fun p1 p2 p3 =>
    down_a x tx an cn ai ci bp op 2 cp s1 h64 hi (by decide) _ (cell_alloc' (cell_alloc' (cell_alloc' hp0 _) _) _) hcn
  have hB0 : ∀ o1 o2 o3, Below w.heap.size w (((w.alloc o1).alloc o2).alloc o3) := fun o1 o2 o3 => (((Below.refl _ w).alloc (Nat.le_refl _) o1).alloc (by simp) o2).alloc (by simp; omega) o3
  have hn2 : ∀ o1 o2 o3, (((w.alloc o1).alloc o2).alloc o3).heap[w.heap.size + 1]? = some o2 := fun o1 o2 o3 => by
    rw [Below.heap_alloc _ _ _ (by simp)]; exact new2 w o1 o2
  have hn3 : ∀ o1 o2 o3, (((w.alloc o1).alloc o2).alloc o3).heap[w.heap.size + 1 + 1]? = some o3 := fun o1 o2 o3 => by
    have := heap_alloc_new ((w.alloc o1).alloc o2) o3
    rw [World.size_alloc, World.size_alloc] at this
    exact this
  go_enter Try.func10, Try.ntmps10
  go_wp2_with fail
  refine (hdn _ _ _).mono ?_
  rintro e w4 ⟨hb4, g, cap, rfl, hown⟩
  have hX : Row5 w4 (w.heap.size + 1) (.int .i64 k5) (.int .i64 x5) (.string tx5) (.slice an5 ln5 cn5) (.slice ai5 li5 ci5) := row5_of ((hb4.block _ (by simp)).trans (hn2 _ _ _))
  have hRs : Row5 w4 (w.heap.size + 1 + 1) (.int .i64 0) (.int .i64 0) (.string ⟨#[]⟩) (.slice none 0 0) (.slice none 0 0) := row5_of ((hb4.block _ (by simp)).trans (hn3 _ _ _))
  have hB4 : Below w.heap.size w w4 := (hB0 _ _ _).trans (hb4.mono (by simp; omega))
  have hsz : w.heap.size + 3 ≤ w4.heap.size := by have := hb4.size; simp at this; omega
  obtain ⟨hcl, hgl, hgg, hcap⟩ := owns_cells hown
  simp at hgg
  clear hdn hB0 hn2 hn3 hb4 hown
  obtain ⟨⟨x0, -⟩, ⟨x1, -⟩, ⟨x2, -⟩, ⟨x3, -⟩, ⟨x4, -⟩⟩ := id hX
  have hV4 : Seen w4 (· < w.heap.size) tX _ := (seen_rep hV).keep hB4
  have hp14 : w4.cell? ⟨bp, op + 1, none⟩ = some (.string s2) := (hB4.cell (cell_lt hp1)).trans hp1
  have hwi := within_one s2 k5 x5 tx5 an5 ln5 cn5 ai5 li5 ci5 tX (· < w.heap.size) bp (op + 1) (cp - 1) w4.drew (cell_lt hp14) hp14 (hV4.keep (below_drew (Below.refl _ _)))
  go_wp2_with fail
  have hcpne : ¬ cp = 1 := by omega
  have hcp1 : (1 : Int) ≤ (cp : Int) := by omega
  have hcp2 : (2 : Int) ≤ (cp : Int) := by omega
  replace hwi := hid_of hwi
  clear hV hV4 hp14 hp0 hp1
  go_region_with (first
    | (go_at_call 30; go_fit hwi.out; clear hwi; rintro e w5 ⟨hb5, cs5, rfl, hV5⟩; obtain ⟨k6, x6, s6, an6, ln6, cn6, ai6, li6, ci6, hcs5⟩ := vrep_five hV5.rep; subst hcs5; have hb45 : Below w4.heap.size w4 w5 := drew_below hb5; have hs45 := hb45.size; have hB5 : Below w.heap.size w w5 := hB4.trans (hb45.mono hB4.size); have hup := hid_of (up_with0 x tx an cn ai ci s1 k6 x6 s6 an6 ln6 cn6 ai6 li6 ci6 _ (fun k => k < w.heap.size ∨ (w4.heap.size + 1 < k ∧ k < w5.heap.size)) g cap w5 (fun k hk => by have := hB5.size; omega) (Nat.lt_of_lt_of_le hgl hb45.size) (hcl.keep hb45 hgl) (seen_in hV5)); have hRs5 : Row5 w5 (w.heap.size + 1 + 1) (.int .i64 0) (.int .i64 0) (.string ⟨#[]⟩) (.slice none 0 0) (.slice none 0 0) := hRs.below hb45; clear hb5 hb45 hV5 x0 x1 x2 x3 x4 hX hRs; simp only [five])
    | (go_at_call 29; go_fit hup.out; clear hup; rintro e w6 ⟨hb6, cs6, rfl, hV6⟩; obtain ⟨k7, x7, s7, an7, ln7, cn7, ai7, li7, ci7, hcs6⟩ := vrep_five hV6.rep; subst hcs6; have hRs6 := hRs5.below hb6; replace hV6 := hid_of hV6; obtain ⟨⟨z0, zf0⟩, ⟨z1, zf1⟩, ⟨z2, zf2⟩, ⟨z3, zf3⟩, ⟨z4, zf4⟩⟩ := id hRs6; simp only [five]))
  go_wp2_with fail
  have hlt6 := hRs6.lt
  have hR7 := hRs6.put (.int .i64 k7) (.int .i64 x7) (.string s7) (.slice an7 ln7 cn7) (.slice ai7 li7 ci7)
  unfold put5 at hR7
  obtain ⟨⟨r0, -⟩, ⟨r1, -⟩, ⟨r2, -⟩, ⟨r3, -⟩, ⟨r4, -⟩⟩ := hR7
  refine bodyPost_ret (v := .tuple #[.agg #[.int .i64 k7, .int .i64 x7, .string s7, .slice an7 ln7 cn7, .slice ai7 li7 ci7], .int .i64 0]) (by simp [results, Try.results10, go_sem, r0, r1, r2, r3, r4]) rfl ?_
  clear r0 r1 r2 r3 r4
  refine ⟨(hB5.trans (hb6.mono hB5.size)).trans (put5_below (by omega) _ _ _ _ _), five k7 x7 s7 (.slice an7 ln7 cn7) (.slice ai7 li7 ci7), rfl, ?_⟩
  exact hV6.out _ ⟨Nat.le_of_eq (put5_size _ _ _ _ _ _ _).symm, fun p u hp hc => (World.cell?_of_block (w := w6) (put5_far _ _ _ _ _ (show p.block ≠ w.heap.size + 1 + 1 from fun e => by
    have hp' : (p.block < w.heap.size ∨ (w4.heap.size + 1 < p.block ∧ p.block < w5.heap.size)) ∨ w5.heap.size + 1 < p.block := hp
    omega))).trans hc⟩
end Go.Proofs.Ytmlbofbnklmedaa
/-! Unset of a place two names deep; Clash. -/
namespace Go.Proofs.Ytmlbofbnklmedaa
open Go Go.RowKit

def emptyObj : Tr := .node 6 0 ⟨#[]⟩ [] []
theorem empty_seen (W : World) (S : Nat → Prop) (g1 g2 : Nat) : Seen W S emptyObj (five 6 0 ⟨#[]⟩ (.slice (some ⟨g1, 0, none⟩) 0 2) (.slice (some ⟨g2, 0, none⟩) 0 2)) := fun W' _ => by
  unfold emptyObj VRep
  exact ⟨_, _, 2, rfl, ⟨_, 2, rfl, ⟨Nat.zero_le _, by omega⟩, .inl rfl⟩, ⟨Nat.zero_le _, by omega⟩, .inl rfl⟩

set_option maxHeartbeats 4000000 in
set_option maxRecDepth 100000 in
theorem unset_b (x : Int) (tx : ByteArray) (b o cn b2 o2 ci : Nat) (x2 : Int) (tx2 : ByteArray) (b3 o3 cn3 b4 o4 ci4 : Nat) (k5 x5 : Int) (tx5 : ByteArray) (an5 : Option Addr) (ln5 cn5 : Nat) (ai5 : Option Addr) (li5 ci5 : Nat) (s1 s2 : ByteArray) (bp op cp : Nat) (t u : Tr) (w : World)
    (hp0 : w.cell? ⟨bp, op, none⟩ = some (.string s1)) (hp1 : w.cell? ⟨bp, op + 1, none⟩ = some (.string s2)) (hs1 : w.cell? ⟨b, o, none⟩ = some (.string s1)) (hs2 : w.cell? ⟨b3, o3, none⟩ = some (.string s2)) (hB : CellsAt w b2 o2 [.int .i64 6, .int .i64 x2, .string tx2, .slice (some ⟨b3, o3, none⟩) 1 cn3, .slice (some ⟨b4, o4, none⟩) 1 ci4]) (hC : CellsAt w b4 o4 [.int .i64 k5, .int .i64 x5, .string tx5, .slice an5 ln5 cn5, .slice ai5 li5 ci5])
    (hcn : 1 ≤ cn ∧ cn ≤ 9223372036854775807) (hcn3 : 1 ≤ cn3 ∧ cn3 ≤ 9223372036854775807) (hci : 1 ≤ ci) (hci4 : 1 ≤ ci4) (hcp : 2 ≤ cp ∧ cp ≤ 9223372036854775807) (hsz1 : s1.size ≤ 64 ∧ s2.size ≤ 64) (hV : VRep w t (five 6 x tx (.slice (some ⟨b, o, none⟩) 1 cn) (.slice (some ⟨b2, o2, none⟩) 1 ci))) (hget : getT t [s1, s2] = some u) :
    Calls Try.prog 16 #[.agg #[.int .i64 6, .int .i64 x, .string tx, .slice (some ⟨b, o, none⟩) 1 cn, .slice (some ⟨b2, o2, none⟩) 1 ci], .slice (some ⟨bp, op, none⟩) 2 cp] w fun e w' => Below w.heap.size w w' ∧ ∃ cs, e = .returned (.tuple #[.agg cs.toArray, .bool true]) ∧ VRep w' (.node 6 0 ⟨#[]⟩ [s1] [emptyObj]) cs := by
  have hrd : ∀ p1 p2, Reads ((w.alloc p1).alloc p2) (.slice (some ⟨bp, op, none⟩) 2 cp) [s1, s2] := fun p1 p2 => ⟨_, cp, rfl, ⟨hcp.1, hcp.2⟩, .inr ⟨bp, op, rfl, cell_lt (cell_alloc' (cell_alloc' hp0 p1) p2), fun j u hj => by
    rcases j with _ | _ | j
    · cases hj; exact cell_alloc' (cell_alloc' hp0 _) _
    · cases hj; exact cell_alloc' (cell_alloc' hp1 _) _
    · simp at hj⟩⟩
  have hB2 : ∀ p1 p2, Below w.heap.size w ((w.alloc p1).alloc p2) := fun p1 p2 => ((Below.refl _ w).alloc (Nat.le_refl _) p1).alloc (by simp) p2
  have hgt : ∀ p1 p2, Calls Try.prog 12 #[.agg #[.int .i64 6, .int .i64 x, .string tx, .slice (some ⟨b, o, none⟩) 1 cn, .slice (some ⟨b2, o2, none⟩) 1 ci], .slice (some ⟨bp, op, none⟩) 2 cp] ((w.alloc p1).alloc p2) (Got ((w.alloc p1).alloc p2) (getT t [s1, s2])) := fun p1 p2 =>
    get_any t _ _ [s1, s2] ((w.alloc p1).alloc p2) (VRep.keep (hB2 p1 p2) t _ hV) (hrd p1 p2) (by simp) (fun s hs => by
      have : s = s1 ∨ s = s2 := by simpa using hs
      rcases this with rfl | rfl <;> omega)
  rw [hget] at hgt
  have hn1 := fun p1 p2 => new1 w p1 p2
  have hn2 := fun p1 p2 => new2 w p1 p2
  go_enter Try.func16, Try.ntmps16
  go_wp2_with fail
  go_fit (hgt _ _)
  rintro e w3 ⟨hb3, cs3, rfl, hV3⟩
  obtain ⟨k9, x9, s9, an9, ln9, cn9, ai9, li9, ci9, hcs3⟩ := vrep_five hV3
  subst hcs3
  simp only [five]
  clear hgt hrd hV3
  have hBx : Row5 w3 w.heap.size (.int .i64 6) (.int .i64 x) (.string tx) (.slice (some ⟨b, o, none⟩) 1 cn) (.slice (some ⟨b2, o2, none⟩) 1 ci) := row5_of ((hb3.block _ (by simp; omega)).trans (hn1 _ _))
  have hRs : Row5 w3 (w.heap.size + 1) (.int .i64 0) (.int .i64 0) (.string ⟨#[]⟩) (.slice none 0 0) (.slice none 0 0) := row5_of ((hb3.block _ (by simp)).trans (hn2 _ _))
  have hB3 : Below w.heap.size w w3 := (hB2 _ _).trans (hb3.mono (by simp; omega))
  have hs3 : w.heap.size + 2 ≤ w3.heap.size := by have := hb3.size; simp at this; omega
  clear hB2 hn1 hn2 hb3
  have hdn : ∀ p1, Hid _ := fun p1 => hid_of (down_b x tx b o cn b2 o2 ci x2 tx2 b3 o3 cn3 b4 o4 ci4 k5 x5 tx5 an5 ln5 cn5 ai5 li5 ci5 s1 s2 bp op cp (w3.alloc p1) (cell_alloc' ((hB3.cell (cell_lt hp0)).trans hp0) _) (cell_alloc' ((hB3.cell (cell_lt hp1)).trans hp1) _) (cell_alloc' ((hB3.cell (cell_lt hs1)).trans hs1) _) (cell_alloc' ((hB3.cell (cell_lt hs2)).trans hs2) _) (fun j u hj => cell_alloc' ((hB3.cell (cell_lt (hB j u hj))).trans (hB j u hj)) _) (fun j u hj => cell_alloc' ((hB3.cell (cell_lt (hC j u hj))).trans (hC j u hj)) _) hcn hcn3)
  have z0 := fun o => (hBx.alloc o).1.1; have z1 := fun o => (hBx.alloc o).2.1.1; have z2 := fun o => (hBx.alloc o).2.2.1.1; have z3 := fun o => (hBx.alloc o).2.2.2.1.1; have z4 := fun o => (hBx.alloc o).2.2.2.2.1
  go_wp2_with fail
  go_fit (hdn _).out
  rintro e w5 ⟨hb5, tv, rfl, hown⟩
  obtain ⟨g, cap, rfl, hgg, hgl⟩ := hown.form (by decide)
  obtain ⟨hcl, -, -, hcap⟩ := owns_cells hown
  have m0 : w5.cell? ⟨g, 7, none⟩ = some (.int .i64 6) := by have := hcl 7 _ rfl; rwa [Nat.zero_add] at this
  have m1 : w5.cell? ⟨g, 8, none⟩ = some (.int .i64 x2) := by have := hcl 8 _ rfl; rwa [Nat.zero_add] at this
  have m2 : w5.cell? ⟨g, 9, none⟩ = some (.string tx2) := by have := hcl 9 _ rfl; rwa [Nat.zero_add] at this
  have m3 : w5.cell? ⟨g, 10, none⟩ = some (.slice (some ⟨b3, o3, none⟩) 1 cn3) := by have := hcl 10 _ rfl; rwa [Nat.zero_add] at this
  have m4 : w5.cell? ⟨g, 11, none⟩ = some (.slice (some ⟨b4, o4, none⟩) 1 ci4) := by have := hcl 11 _ rfl; rwa [Nat.zero_add] at this
  have m5 : w5.cell? ⟨g, 12, none⟩ = some (.string s2) := by have := hcl 12 _ rfl; rwa [Nat.zero_add] at this
  have m6 : w5.cell? ⟨g, 13, none⟩ = some (.int .i64 0) := by have := hcl 13 _ rfl; rwa [Nat.zero_add] at this
  have hB5 : Below w.heap.size w w5 := hB3.trans ((below_box hb5).mono hB3.size)
  have hRs5 : Row5 w5 (w.heap.size + 1) (.int .i64 0) (.int .i64 0) (.string ⟨#[]⟩) (.slice none 0 0) (.slice none 0 0) := (hRs.alloc _).below hb5
  have hs35 : w3.heap.size + 1 ≤ w5.heap.size := by have := hb5.size; simp at this; omega
  have hcl1 : CellsAt w5 g 0 [.int .i64 6, .int .i64 x, .string tx, .slice (some ⟨b, o, none⟩) 1 cn, .slice (some ⟨b2, o2, none⟩) 1 ci, .string s1, .int .i64 0] := fun j u hj => hcl j u (by
    have hlt := (List.getElem?_eq_some_iff.1 hj).1
    rw [List.getElem?_append_left hlt]; exact hj)
  clear hcl hdn z0 z1 z2 z3 z4 hown hb5 hBx hRs
  have hs25 : w5.cell? ⟨b3, o3, none⟩ = some (.string s2) := (hB5.cell (cell_lt hs2)).trans hs2
  have hC5 : CellsAt w5 b4 o4 [.int .i64 k5, .int .i64 x5, .string tx5, .slice an5 ln5 cn5, .slice ai5 li5 ci5] := fun j u hj => (hB5.cell (cell_lt (hC j u hj))).trans (hC j u hj)
  have hwo := hid_of (without1 x2 tx2 b3 o3 cn3 b4 o4 ci4 s2 s2 (.int .i64 k5) (.int .i64 x5) (.string tx5) (.slice an5 ln5 cn5) (.slice ai5 li5 ci5) rfl hcn3.1 hci4 w5.drew hs25 hC5)
  replace hB : Hid (CellsAt w b2 o2 [.int .i64 6, .int .i64 x2, .string tx2, .slice (some ⟨b3, o3, none⟩) 1 cn3, .slice (some ⟨b4, o4, none⟩) 1 ci4]) := hB
  replace hcl1 := hid_of hcl1
  clear hC hC5 hs25 hp0 hp1 hs2 hV
  go_wp2_with fail
  go_region_with (first
    | (go_at_call 33; go_fit hwo.out; clear hwo; rintro e w6 ⟨hb6, g1, g2, rfl⟩; have hb56 : Below w5.heap.size w5 w6 := drew_below hb6; have hs56 := hb56.size; have hB6 : Below w.heap.size w w6 := hB5.trans (hb56.mono hB5.size); have hup := hid_of (up_with1 x tx b o cn b2 o2 ci s1 s1 (.int .i64 6) (.int .i64 x2) (.string tx2) (.slice (some ⟨b3, o3, none⟩) 1 cn3) (.slice (some ⟨b4, o4, none⟩) 1 ci4) rfl hcn.1 hci 6 0 ⟨#[]⟩ (some ⟨g1, 0, none⟩) 0 2 (some ⟨g2, 0, none⟩) 0 2 emptyObj (fun _ => False) g cap w6 (fun _ h => h.elim) (Nat.lt_of_lt_of_le hgl hs56) (hcl1.out.keep hb56 hgl) ((hB6.cell (cell_lt hs1)).trans hs1) (fun j u hj => (hB6.cell (cell_lt (hB.out j u hj))).trans (hB.out j u hj)) (empty_seen _ _ _ _)); have hRs6 : Row5 w6 (w.heap.size + 1) (.int .i64 0) (.int .i64 0) (.string ⟨#[]⟩) (.slice none 0 0) (.slice none 0 0) := hRs5.below hb56; clear hb6 hb56 m0 m1 m2 m3 m4 m5 m6 hRs5)
    | (go_at_call 29; go_fit hup.out; clear hup; rintro e w7 ⟨hb7, cs7, rfl, hV7⟩; obtain ⟨k7, x7, s7, an7, ln7, cn7, ai7, li7, ci7, hcs7⟩ := vrep_five hV7.rep; subst hcs7; have hRs7 := hRs6.below hb7; replace hV7 := hid_of hV7; obtain ⟨⟨z0, zf0⟩, ⟨z1, zf1⟩, ⟨z2, zf2⟩, ⟨z3, zf3⟩, ⟨z4, zf4⟩⟩ := id hRs7; simp only [five]))
  all_goals
    go_wp2_with fail
    have hR8 := hRs7.put (.int .i64 k7) (.int .i64 x7) (.string s7) (.slice an7 ln7 cn7) (.slice ai7 li7 ci7)
    unfold put5 at hR8
    obtain ⟨⟨r0, -⟩, ⟨r1, -⟩, ⟨r2, -⟩, ⟨r3, -⟩, ⟨r4, -⟩⟩ := hR8
    refine bodyPost_ret (v := .tuple #[.agg #[.int .i64 k7, .int .i64 x7, .string s7, .slice an7 ln7 cn7, .slice ai7 li7 ci7], .bool true]) (by simp [results, Try.results16, go_sem, r0, r1, r2, r3, r4]) rfl ?_
    clear r0 r1 r2 r3 r4
    refine ⟨(hB6.trans (hb7.mono hB6.size)).trans (put5_below (by omega) _ _ _ _ _), five k7 x7 s7 (.slice an7 ln7 cn7) (.slice ai7 li7 ci7), rfl, ?_⟩
    exact hV7.out _ ⟨Nat.le_of_eq (put5_size _ _ _ _ _ _ _).symm, fun p u hp hc => (World.cell?_of_block (w := w7) (put5_far _ _ _ _ _ (show p.block ≠ w.heap.size + 1 from fun e => by
      have hp' : False ∨ w6.heap.size + 1 < p.block := hp
      have hp'' := hp'.resolve_left id
      omega))).trans hc⟩
end Go.Proofs.Ytmlbofbnklmedaa
