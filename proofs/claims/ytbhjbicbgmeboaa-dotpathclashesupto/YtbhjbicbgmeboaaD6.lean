import Derived.Test.YtbhjbicbgmeboaaD5
import Derived.Deep.RegionWith
import Derived.Deep.DeepFit
/-! Set, of an empty object. -/
namespace Go.Proofs.Ytbhjbicbgmeboaa
open Go Go.RowKit

theorem seen_in {W : World} {n m : Nat} {t : Tr} {cs : List Value} (h : Seen W (fun k => k < n ∨ m < k) t cs) : Seen W (fun k => k < n ∨ (m < k ∧ k < W.heap.size)) t cs := fun W' a => h W' ⟨a.1, fun p u hp hc => a.2 p u (hp.imp id (fun h => ⟨h, cell_lt hc⟩)) hc⟩
theorem drew_below {w w' : World} (h : Below w.drew.heap.size w.drew w') : Below w.heap.size w w' := ⟨h.os, h.tape, h.output, h.size, h.block⟩
set_option maxHeartbeats 400000 in
set_option maxRecDepth 100000 in
theorem set_a (x : Int) (tx : ByteArray) (an : Option Addr) (cn : Nat) (ai : Option Addr) (ci : Nat) (k5 x5 : Int) (tx5 : ByteArray) (an5 : Option Addr) (ln5 cn5 : Nat) (ai5 : Option Addr) (li5 ci5 : Nat) (tX : Tr) (bp op cp : Nat) (s1 s2 : ByteArray) (h64 : s1.size ≤ 64) (hi : idx s1 = none) (hcn : cn ≤ 100) (hcp : 2 ≤ cp) (w : World) (hp0 : w.cell? ⟨bp, op, none⟩ = some (.string s1)) (hp1 : w.cell? ⟨bp, op + 1, none⟩ = some (.string s2)) (hV : VRep w tX (five k5 x5 tx5 (.slice an5 ln5 cn5) (.slice ai5 li5 ci5))) :
    Calls Try.prog 9 #[.agg #[.int .i64 6, .int .i64 x, .string tx, .slice an 0 cn, .slice ai 0 ci], .slice (some ⟨bp, op, none⟩) 2 cp, .agg #[.int .i64 k5, .int .i64 x5, .string tx5, .slice an5 ln5 cn5, .slice ai5 li5 ci5]] w fun e w' => Below w.heap.size w w' ∧ ∃ cs, e = .returned (.tuple #[.agg cs.toArray, .int .i64 0]) ∧ VRep w' (.node 6 0 ⟨#[]⟩ [s1] [.node 6 0 ⟨#[]⟩ [s2] [tX]]) cs := by
  have hdn : ∀ p1 p2 p3, Calls Try.prog 23 #[.agg #[.int .i64 6, .int .i64 x, .string tx, .slice an 0 cn, .slice ai 0 ci], .slice (some ⟨bp, op, none⟩) 2 cp] (((w.alloc p1).alloc p2).alloc p3) fun e w' => Below (((w.alloc p1).alloc p2).alloc p3).heap.size (((w.alloc p1).alloc p2).alloc p3) w' ∧ ∃ g cap, e = .returned (.tuple #[.slice (some ⟨g, 0, none⟩) 1 cap, .int .i64 0]) ∧ w'.ownsRow (((w.alloc p1).alloc p2).alloc p3).heap.size 64 7 (.slice (some ⟨g, 0, none⟩) 1 cap) 1 [.int .i64 6, .int .i64 x, .string tx, .slice an 0 cn, .slice ai 0 ci, .string s1, .int .i64 0] := fun p1 p2 p3 =>
    down_a x tx an cn ai ci bp op 2 cp s1 h64 hi (by decide) _ (cell_alloc' (cell_alloc' (cell_alloc' hp0 _) _) _) hcn
  have hB0 : ∀ o1 o2 o3, Below w.heap.size w (((w.alloc o1).alloc o2).alloc o3) := fun o1 o2 o3 => (((Below.refl _ w).alloc (Nat.le_refl _) o1).alloc (by simp) o2).alloc (by simp; omega) o3
  have hn2 : ∀ o1 o2 o3, (((w.alloc o1).alloc o2).alloc o3).heap[w.heap.size + 1]? = some o2 := fun o1 o2 o3 => by
    rw [Below.heap_alloc _ _ _ (by simp)]; exact new2 w o1 o2
  have hn3 : ∀ o1 o2 o3, (((w.alloc o1).alloc o2).alloc o3).heap[w.heap.size + 1 + 1]? = some o3 := fun o1 o2 o3 => by
    have := heap_alloc_new ((w.alloc o1).alloc o2) o3
    rw [World.size_alloc, World.size_alloc] at this
    exact this
  go_enter Try.func9, Try.ntmps9
  go_wp2_with fail
  refine (hdn _ _ _).mono ?_
  rintro e w4 ⟨hb4, g, cap, rfl, hown⟩
  have hX : Row5 w4 (w.heap.size + 1) (.int .i64 k5) (.int .i64 x5) (.string tx5) (.slice an5 ln5 cn5) (.slice ai5 li5 ci5) := row5_of ((hb4.block _ (by simp)).trans (hn2 _ _ _))
  have hRs : Row5 w4 (w.heap.size + 1 + 1) (.int .i64 0) (.int .i64 0) (.string ⟨#[]⟩) (.slice none 0 0) (.slice none 0 0) := row5_of ((hb4.block _ (by simp)).trans (hn3 _ _ _))
  have hB4 : Below w.heap.size w w4 := (hB0 _ _ _).trans (hb4.mono (by simp; omega))
  have hsz : w.heap.size + 3 ≤ w4.heap.size := by have := hb4.size; simp at this; omega
  obtain ⟨hcl, hgl, hgg, hcap⟩ := owns_cells hown
  simp at hgg
  clear hdn hB0 hn2 hn3 hb4 hown
  obtain ⟨⟨x0, -⟩, ⟨x1, -⟩, ⟨x2, -⟩, ⟨x3, -⟩, ⟨x4, -⟩⟩ := id hX
  have hV4 : Seen w4 (· < w.heap.size) tX _ := (seen_rep hV).keep hB4
  have hp14 : w4.cell? ⟨bp, op + 1, none⟩ = some (.string s2) := (hB4.cell (cell_lt hp1)).trans hp1
  have hwi := within_one s2 k5 x5 tx5 an5 ln5 cn5 ai5 li5 ci5 tX (· < w.heap.size) bp (op + 1) (cp - 1) w4.drew (cell_lt hp14) hp14 (hV4.keep (below_drew (Below.refl _ _)))
  go_wp2_with fail
  have hcpne : ¬ cp = 1 := by omega
  have hcp1 : (1 : Int) ≤ (cp : Int) := by omega
  have hcp2 : (2 : Int) ≤ (cp : Int) := by omega
  replace hwi := hid_of hwi
  clear hV hV4 hp14 hp0 hp1
  go_region_with (first
    | (go_at_call 25; go_fit hwi.out; clear hwi; rintro e w5 ⟨hb5, cs5, rfl, hV5⟩; obtain ⟨k6, x6, s6, an6, ln6, cn6, ai6, li6, ci6, hcs5⟩ := vrep_five hV5.rep; subst hcs5; have hb45 : Below w4.heap.size w4 w5 := drew_below hb5; have hs45 := hb45.size; have hB5 : Below w.heap.size w w5 := hB4.trans (hb45.mono hB4.size); have hup := hid_of (up_with0 x tx an cn ai ci s1 k6 x6 s6 an6 ln6 cn6 ai6 li6 ci6 _ (fun k => k < w.heap.size ∨ (w4.heap.size + 1 < k ∧ k < w5.heap.size)) g cap w5 (fun k hk => by have := hB5.size; omega) (Nat.lt_of_lt_of_le hgl hb45.size) (hcl.keep hb45 hgl) (seen_in hV5)); have hRs5 : Row5 w5 (w.heap.size + 1 + 1) (.int .i64 0) (.int .i64 0) (.string ⟨#[]⟩) (.slice none 0 0) (.slice none 0 0) := hRs.below hb45; clear hb5 hb45 hV5 x0 x1 x2 x3 x4 hX hRs; simp only [five])
    | (go_at_call 24; go_fit hup.out; clear hup; rintro e w6 ⟨hb6, cs6, rfl, hV6⟩; obtain ⟨k7, x7, s7, an7, ln7, cn7, ai7, li7, ci7, hcs6⟩ := vrep_five hV6.rep; subst hcs6; have hRs6 := hRs5.below hb6; replace hV6 := hid_of hV6; obtain ⟨⟨z0, zf0⟩, ⟨z1, zf1⟩, ⟨z2, zf2⟩, ⟨z3, zf3⟩, ⟨z4, zf4⟩⟩ := id hRs6; simp only [five]))
  go_wp2_with fail
  have hlt6 := hRs6.lt
  have hR7 := hRs6.put (.int .i64 k7) (.int .i64 x7) (.string s7) (.slice an7 ln7 cn7) (.slice ai7 li7 ci7)
  unfold put5 at hR7
  obtain ⟨⟨r0, -⟩, ⟨r1, -⟩, ⟨r2, -⟩, ⟨r3, -⟩, ⟨r4, -⟩⟩ := hR7
  refine bodyPost_ret (v := .tuple #[.agg #[.int .i64 k7, .int .i64 x7, .string s7, .slice an7 ln7 cn7, .slice ai7 li7 ci7], .int .i64 0]) (by simp [results, Try.results9, go_sem, r0, r1, r2, r3, r4]) rfl ?_
  clear r0 r1 r2 r3 r4
  refine ⟨(hB5.trans (hb6.mono hB5.size)).trans (put5_below (by omega) _ _ _ _ _), five k7 x7 s7 (.slice an7 ln7 cn7) (.slice ai7 li7 ci7), rfl, ?_⟩
  exact hV6.out _ ⟨Nat.le_of_eq (put5_size _ _ _ _ _ _ _).symm, fun p u hp hc => (World.cell?_of_block (w := w6) (put5_far _ _ _ _ _ (show p.block ≠ w.heap.size + 1 + 1 from fun e => by
    have hp' : (p.block < w.heap.size ∨ (w4.heap.size + 1 < p.block ∧ p.block < w5.heap.size)) ∨ w5.heap.size + 1 < p.block := hp
    omega))).trans hc⟩
end Go.Proofs.Ytbhjbicbgmeboaa
