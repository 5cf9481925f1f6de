import Derived.Test.YtbhjbicbgmeboaaD6
/-! Unset of a place two names deep; Clash. -/
namespace Go.Proofs.Ytbhjbicbgmeboaa
open Go Go.RowKit

def emptyObj : Tr := .node 6 0 ⟨#[]⟩ [] []
theorem empty_seen (W : World) (S : Nat → Prop) (g1 g2 : Nat) : Seen W S emptyObj (five 6 0 ⟨#[]⟩ (.slice (some ⟨g1, 0, none⟩) 0 2) (.slice (some ⟨g2, 0, none⟩) 0 2)) := fun W' _ => by
  unfold emptyObj VRep
  exact ⟨_, _, 2, rfl, ⟨_, 2, rfl, ⟨Nat.zero_le _, by omega⟩, .inl rfl⟩, ⟨Nat.zero_le _, by omega⟩, .inl rfl⟩

set_option maxHeartbeats 4000000 in
set_option maxRecDepth 100000 in
theorem unset_b (x : Int) (tx : ByteArray) (b o cn b2 o2 ci : Nat) (x2 : Int) (tx2 : ByteArray) (b3 o3 cn3 b4 o4 ci4 : Nat) (k5 x5 : Int) (tx5 : ByteArray) (an5 : Option Addr) (ln5 cn5 : Nat) (ai5 : Option Addr) (li5 ci5 : Nat) (s1 s2 : ByteArray) (bp op cp : Nat) (t u : Tr) (w : World)
    (hp0 : w.cell? ⟨bp, op, none⟩ = some (.string s1)) (hp1 : w.cell? ⟨bp, op + 1, none⟩ = some (.string s2)) (hs1 : w.cell? ⟨b, o, none⟩ = some (.string s1)) (hs2 : w.cell? ⟨b3, o3, none⟩ = some (.string s2)) (hB : CellsAt w b2 o2 [.int .i64 6, .int .i64 x2, .string tx2, .slice (some ⟨b3, o3, none⟩) 1 cn3, .slice (some ⟨b4, o4, none⟩) 1 ci4]) (hC : CellsAt w b4 o4 [.int .i64 k5, .int .i64 x5, .string tx5, .slice an5 ln5 cn5, .slice ai5 li5 ci5])
    (hcn : 1 ≤ cn ∧ cn ≤ 9223372036854775807) (hcn3 : 1 ≤ cn3 ∧ cn3 ≤ 9223372036854775807) (hci : 1 ≤ ci) (hci4 : 1 ≤ ci4) (hcp : 2 ≤ cp ∧ cp ≤ 9223372036854775807) (hsz1 : s1.size ≤ 64 ∧ s2.size ≤ 64) (hV : VRep w t (five 6 x tx (.slice (some ⟨b, o, none⟩) 1 cn) (.slice (some ⟨b2, o2, none⟩) 1 ci))) (hget : getT t [s1, s2] = some u) :
    Calls Try.prog 21 #[.agg #[.int .i64 6, .int .i64 x, .string tx, .slice (some ⟨b, o, none⟩) 1 cn, .slice (some ⟨b2, o2, none⟩) 1 ci], .slice (some ⟨bp, op, none⟩) 2 cp] w fun e w' => Below w.heap.size w w' ∧ ∃ cs, e = .returned (.tuple #[.agg cs.toArray, .bool true]) ∧ VRep w' (.node 6 0 ⟨#[]⟩ [s1] [emptyObj]) cs := by
  have hrd : ∀ p1 p2, Reads ((w.alloc p1).alloc p2) (.slice (some ⟨bp, op, none⟩) 2 cp) [s1, s2] := fun p1 p2 => ⟨_, cp, rfl, ⟨hcp.1, hcp.2⟩, .inr ⟨bp, op, rfl, cell_lt (cell_alloc' (cell_alloc' hp0 p1) p2), fun j u hj => by
    rcases j with _ | _ | j
    · cases hj; exact cell_alloc' (cell_alloc' hp0 _) _
    · cases hj; exact cell_alloc' (cell_alloc' hp1 _) _
    · simp at hj⟩⟩
  have hB2 : ∀ p1 p2, Below w.heap.size w ((w.alloc p1).alloc p2) := fun p1 p2 => ((Below.refl _ w).alloc (Nat.le_refl _) p1).alloc (by simp) p2
  have hgt : ∀ p1 p2, Calls Try.prog 11 #[.agg #[.int .i64 6, .int .i64 x, .string tx, .slice (some ⟨b, o, none⟩) 1 cn, .slice (some ⟨b2, o2, none⟩) 1 ci], .slice (some ⟨bp, op, none⟩) 2 cp] ((w.alloc p1).alloc p2) (Got ((w.alloc p1).alloc p2) (getT t [s1, s2])) := fun p1 p2 =>
    get_any t _ _ [s1, s2] ((w.alloc p1).alloc p2) (VRep.keep (hB2 p1 p2) t _ hV) (hrd p1 p2) (by simp) (fun s hs => by
      have : s = s1 ∨ s = s2 := by simpa using hs
      rcases this with rfl | rfl <;> omega)
  rw [hget] at hgt
  have hn1 := fun p1 p2 => new1 w p1 p2
  have hn2 := fun p1 p2 => new2 w p1 p2
  go_enter Try.func21, Try.ntmps21
  go_wp2_with fail
  go_fit (hgt _ _)
  rintro e w3 ⟨hb3, cs3, rfl, hV3⟩
  obtain ⟨k9, x9, s9, an9, ln9, cn9, ai9, li9, ci9, hcs3⟩ := vrep_five hV3
  subst hcs3
  simp only [five]
  clear hgt hrd hV3
  have hBx : Row5 w3 w.heap.size (.int .i64 6) (.int .i64 x) (.string tx) (.slice (some ⟨b, o, none⟩) 1 cn) (.slice (some ⟨b2, o2, none⟩) 1 ci) := row5_of ((hb3.block _ (by simp; omega)).trans (hn1 _ _))
  have hRs : Row5 w3 (w.heap.size + 1) (.int .i64 0) (.int .i64 0) (.string ⟨#[]⟩) (.slice none 0 0) (.slice none 0 0) := row5_of ((hb3.block _ (by simp)).trans (hn2 _ _))
  have hB3 : Below w.heap.size w w3 := (hB2 _ _).trans (hb3.mono (by simp; omega))
  have hs3 : w.heap.size + 2 ≤ w3.heap.size := by have := hb3.size; simp at this; omega
  clear hB2 hn1 hn2 hb3
  have hdn : ∀ p1, Hid _ := fun p1 => hid_of (down_b x tx b o cn b2 o2 ci x2 tx2 b3 o3 cn3 b4 o4 ci4 k5 x5 tx5 an5 ln5 cn5 ai5 li5 ci5 s1 s2 bp op cp (w3.alloc p1) (cell_alloc' ((hB3.cell (cell_lt hp0)).trans hp0) _) (cell_alloc' ((hB3.cell (cell_lt hp1)).trans hp1) _) (cell_alloc' ((hB3.cell (cell_lt hs1)).trans hs1) _) (cell_alloc' ((hB3.cell (cell_lt hs2)).trans hs2) _) (fun j u hj => cell_alloc' ((hB3.cell (cell_lt (hB j u hj))).trans (hB j u hj)) _) (fun j u hj => cell_alloc' ((hB3.cell (cell_lt (hC j u hj))).trans (hC j u hj)) _) hcn hcn3)
  have z0 := fun o => (hBx.alloc o).1.1; have z1 := fun o => (hBx.alloc o).2.1.1; have z2 := fun o => (hBx.alloc o).2.2.1.1; have z3 := fun o => (hBx.alloc o).2.2.2.1.1; have z4 := fun o => (hBx.alloc o).2.2.2.2.1
  go_wp2_with fail
  go_fit (hdn _).out
  rintro e w5 ⟨hb5, tv, rfl, hown⟩
  obtain ⟨g, cap, rfl, hgg, hgl⟩ := hown.form (by decide)
  obtain ⟨hcl, -, -, hcap⟩ := owns_cells hown
  have m0 : w5.cell? ⟨g, 7, none⟩ = some (.int .i64 6) := by have := hcl 7 _ rfl; rwa [Nat.zero_add] at this
  have m1 : w5.cell? ⟨g, 8, none⟩ = some (.int .i64 x2) := by have := hcl 8 _ rfl; rwa [Nat.zero_add] at this
  have m2 : w5.cell? ⟨g, 9, none⟩ = some (.string tx2) := by have := hcl 9 _ rfl; rwa [Nat.zero_add] at this
  have m3 : w5.cell? ⟨g, 10, none⟩ = some (.slice (some ⟨b3, o3, none⟩) 1 cn3) := by have := hcl 10 _ rfl; rwa [Nat.zero_add] at this
  have m4 : w5.cell? ⟨g, 11, none⟩ = some (.slice (some ⟨b4, o4, none⟩) 1 ci4) := by have := hcl 11 _ rfl; rwa [Nat.zero_add] at this
  have m5 : w5.cell? ⟨g, 12, none⟩ = some (.string s2) := by have := hcl 12 _ rfl; rwa [Nat.zero_add] at this
  have m6 : w5.cell? ⟨g, 13, none⟩ = some (.int .i64 0) := by have := hcl 13 _ rfl; rwa [Nat.zero_add] at this
  have hB5 : Below w.heap.size w w5 := hB3.trans ((below_box hb5).mono hB3.size)
  have hRs5 : Row5 w5 (w.heap.size + 1) (.int .i64 0) (.int .i64 0) (.string ⟨#[]⟩) (.slice none 0 0) (.slice none 0 0) := (hRs.alloc _).below hb5
  have hs35 : w3.heap.size + 1 ≤ w5.heap.size := by have := hb5.size; simp at this; omega
  have hcl1 : CellsAt w5 g 0 [.int .i64 6, .int .i64 x, .string tx, .slice (some ⟨b, o, none⟩) 1 cn, .slice (some ⟨b2, o2, none⟩) 1 ci, .string s1, .int .i64 0] := fun j u hj => hcl j u (by
    have hlt := (List.getElem?_eq_some_iff.1 hj).1
    rw [List.getElem?_append_left hlt]; exact hj)
  clear hcl hdn z0 z1 z2 z3 z4 hown hb5 hBx hRs
  have hs25 : w5.cell? ⟨b3, o3, none⟩ = some (.string s2) := (hB5.cell (cell_lt hs2)).trans hs2
  have hC5 : CellsAt w5 b4 o4 [.int .i64 k5, .int .i64 x5, .string tx5, .slice an5 ln5 cn5, .slice ai5 li5 ci5] := fun j u hj => (hB5.cell (cell_lt (hC j u hj))).trans (hC j u hj)
  have hwo := hid_of (without1 x2 tx2 b3 o3 cn3 b4 o4 ci4 s2 s2 (.int .i64 k5) (.int .i64 x5) (.string tx5) (.slice an5 ln5 cn5) (.slice ai5 li5 ci5) rfl hcn3.1 hci4 w5.drew hs25 hC5)
  replace hB : Hid (CellsAt w b2 o2 [.int .i64 6, .int .i64 x2, .string tx2, .slice (some ⟨b3, o3, none⟩) 1 cn3, .slice (some ⟨b4, o4, none⟩) 1 ci4]) := hB
  replace hcl1 := hid_of hcl1
  clear hC hC5 hs25 hp0 hp1 hs2 hV
  go_wp2_with fail
  go_region_with (first
    | (go_at_call 34; go_fit hwo.out; clear hwo; rintro e w6 ⟨hb6, g1, g2, rfl⟩; have hb56 : Below w5.heap.size w5 w6 := drew_below hb6; have hs56 := hb56.size; have hB6 : Below w.heap.size w w6 := hB5.trans (hb56.mono hB5.size); have hup := hid_of (up_with1 x tx b o cn b2 o2 ci s1 s1 (.int .i64 6) (.int .i64 x2) (.string tx2) (.slice (some ⟨b3, o3, none⟩) 1 cn3) (.slice (some ⟨b4, o4, none⟩) 1 ci4) rfl hcn.1 hci 6 0 ⟨#[]⟩ (some ⟨g1, 0, none⟩) 0 2 (some ⟨g2, 0, none⟩) 0 2 emptyObj (fun _ => False) g cap w6 (fun _ h => h.elim) (Nat.lt_of_lt_of_le hgl hs56) (hcl1.out.keep hb56 hgl) ((hB6.cell (cell_lt hs1)).trans hs1) (fun j u hj => (hB6.cell (cell_lt (hB.out j u hj))).trans (hB.out j u hj)) (empty_seen _ _ _ _)); have hRs6 : Row5 w6 (w.heap.size + 1) (.int .i64 0) (.int .i64 0) (.string ⟨#[]⟩) (.slice none 0 0) (.slice none 0 0) := hRs5.below hb56; clear hb6 hb56 m0 m1 m2 m3 m4 m5 m6 hRs5)
    | (go_at_call 24; go_fit hup.out; clear hup; rintro e w7 ⟨hb7, cs7, rfl, hV7⟩; obtain ⟨k7, x7, s7, an7, ln7, cn7, ai7, li7, ci7, hcs7⟩ := vrep_five hV7.rep; subst hcs7; have hRs7 := hRs6.below hb7; replace hV7 := hid_of hV7; obtain ⟨⟨z0, zf0⟩, ⟨z1, zf1⟩, ⟨z2, zf2⟩, ⟨z3, zf3⟩, ⟨z4, zf4⟩⟩ := id hRs7; simp only [five]))
  all_goals
    go_wp2_with fail
    have hR8 := hRs7.put (.int .i64 k7) (.int .i64 x7) (.string s7) (.slice an7 ln7 cn7) (.slice ai7 li7 ci7)
    unfold put5 at hR8
    obtain ⟨⟨r0, -⟩, ⟨r1, -⟩, ⟨r2, -⟩, ⟨r3, -⟩, ⟨r4, -⟩⟩ := hR8
    refine bodyPost_ret (v := .tuple #[.agg #[.int .i64 k7, .int .i64 x7, .string s7, .slice an7 ln7 cn7, .slice ai7 li7 ci7], .bool true]) (by simp [results, Try.results21, go_sem, r0, r1, r2, r3, r4]) rfl ?_
    clear r0 r1 r2 r3 r4
    refine ⟨(hB6.trans (hb7.mono hB6.size)).trans (put5_below (by omega) _ _ _ _ _), five k7 x7 s7 (.slice an7 ln7 cn7) (.slice ai7 li7 ci7), rfl, ?_⟩
    exact hV7.out _ ⟨Nat.le_of_eq (put5_size _ _ _ _ _ _ _).symm, fun p u hp hc => (World.cell?_of_block (w := w7) (put5_far _ _ _ _ _ (show p.block ≠ w.heap.size + 1 from fun e => by
      have hp' : False ∨ w6.heap.size + 1 < p.block := hp
      have hp'' := hp'.resolve_left id
      omega))).trans hc⟩
end Go.Proofs.Ytbhjbicbgmeboaa
