import Derived.Test.YtmlbofbnklmedaaS11
/-! Set, of every value and path. -/
namespace Go.Proofs.Ytmlbofbnklmedaa
open Go Go.RowKit

/-- within, of what is left of a path. -/
theorem within_rest (w : World) (a : Option Addr) (c : Nat) (r : List ByteArray) (hr : r.length ≤ 9223372036854775807) (hR : r = [] ∨ ∃ b o, a = some ⟨b, o, none⟩ ∧ ∀ j s, r[j]? = some s → w.cell? ⟨b, o + j, none⟩ = some (.string s)) (k1 x1 : Int) (s1 : ByteArray) (an1 : Option Addr) (ln1 cn1 : Nat) (ai1 : Option Addr) (li1 ci1 : Nat) (X : Tr) (S : Nat → Prop) (hS : ∀ k, S k → k < w.heap.size) (hX : Seen w S X (five k1 x1 s1 (.slice an1 ln1 cn1) (.slice ai1 li1 ci1))) :
    Calls Try.prog 30 #[.slice a r.length c, .agg #[.int .i64 k1, .int .i64 x1, .string s1, .slice an1 ln1 cn1, .slice ai1 li1 ci1]] w fun e w' => Below w.heap.size w w' ∧ ∃ cs, e = .returned (.agg cs.toArray) ∧ Seen w' (fun k => S k ∨ w.heap.size + 1 < k) (nestS r X) cs := by
  have := within_any w r.length c hr a (fun i => r.getD i ⟨#[]⟩) (fun i hi => by
    rcases hR with rfl | ⟨b, o, e, h⟩
    · simp at hi
    · exact ⟨b, o, e, h i _ (by simp [List.getD_eq_getElem?_getD, hi])⟩) k1 x1 s1 an1 ln1 cn1 ai1 li1 ci1 X S hS hX
  rw [nests_list] at this
  exact this
def SetPost (w : World) (d : Int) (R : Tr) (e : Ending) (w' : World) : Prop :=
  Below w.heap.size w w' ∧ ((d ≠ 0 ∧ e = .returned (.tuple #[zeroV, .int .i64 d])) ∨ (d = 0 ∧ ∃ cs, e = .returned (.tuple #[.agg cs.toArray, .int .i64 0]) ∧ VRep w' R cs))

set_option maxHeartbeats 1000000 in
set_option maxRecDepth 100000 in
theorem set_any (t X : Tr) (cs xs : List Value) (pv : Value) (l : List ByteArray) (w : World) (hV : VRep w t cs) (hX : VRep w X xs) (hP : Reads w pv l) (hl : l.length ≤ 1000000) (hS : Hid (Sized l)) (hb : ∀ st ∈ (downT t l).2, (st.1.items.length + 1) * 80 ≤ 140737488355328) :
    Calls Try.prog 10 #[.agg cs.toArray, pv, .agg xs.toArray] w (SetPost w (downT t l).1 (setT t l X)) := by
  obtain ⟨a, c, rfl, hc, hA⟩ := id hP
  obtain ⟨k0, x0, s0, an0, ln0, cn0, ai0, li0, ci0, rfl⟩ := vrep_five hV
  obtain ⟨k5, x5, tx5, an5, ln5, cn5, ai5, li5, ci5, rfl⟩ := vrep_five hX
  have hB0 : ∀ o1 o2 o3, Below w.heap.size w (((w.alloc o1).alloc o2).alloc o3) := fun o1 o2 o3 => (((Below.refl _ w).alloc (Nat.le_refl _) o1).alloc (by simp) o2).alloc (by simp; omega) o3
  have hdn := fun p1 p2 p3 => down_any t _ _ l w (((w.alloc p1).alloc p2).alloc p3) (hB0 p1 p2 p3) hV (hP.keep (hB0 p1 p2 p3)) hl hS
  unfold five at *
  have hn2 : ∀ o1 o2 o3, (((w.alloc o1).alloc o2).alloc o3).heap[w.heap.size + 1]? = some o2 := fun o1 o2 o3 => by
    rw [Below.heap_alloc _ _ _ (by simp)]; exact new2 w o1 o2
  have hn3 : ∀ o1 o2 o3, (((w.alloc o1).alloc o2).alloc o3).heap[w.heap.size + 1 + 1]? = some o3 := fun o1 o2 o3 => by
    have := heap_alloc_new ((w.alloc o1).alloc o2) o3
    rw [World.size_alloc, World.size_alloc] at this
    exact this
  obtain ⟨d, hd⟩ : ∃ d, Hid ((downT t l) = d) := ⟨_, rfl⟩
  rw [hd.out] at hdn hb ⊢
  replace hV := hid_of hV; replace hX := hid_of hX; replace hA := hid_of hA; replace hP := hid_of hP; replace hb := hid_of hb
  go_enter Try.func10, Try.ntmps10
  go_wp2_with fail
  refine (hdn _ _ _).mono ?_
  rintro e w4 ⟨hb4, ⟨hd0, rfl⟩ | ⟨hd0, tv, ts, rfl, hown, hts, hok⟩⟩
  · have hRs : w4.heap[w.heap.size + 1 + 1]? = _ := (hb4.block _ (by simp)).trans (hn3 _ _ _)
    have hB4 : Hid (Below w.heap.size w w4) := hid_of ((hB0 _ _ _).trans (hb4.mono (by simp; omega)))
    clear hb4 hdn hB0 hn2 hn3
    obtain ⟨z0, z1, z2, z3, z4, zf⟩ := row_cells hRs
    have g0 := zf 0; have g1 := zf 1; have g2 := zf 2; have g3 := zf 3; have g4 := zf 4
    clear zf
    have hdd : (d.1 == 0) = false := by simpa using hd0
    replace hRs := hid_of hRs
    go_wp2_with fail
    have hr := put5_cells hRs.out (.int .i64 0) (.int .i64 0) (.string ⟨#[]⟩) (.slice none 0 0) (.slice none 0 0)
    have r0 := hr 0; have r1 := hr 1; have r2 := hr 2; have r3 := hr 3; have r4 := hr 4
    clear hr
    refine bodyPost_ret (v := .tuple #[zeroV, .int .i64 d.1]) (by simp [results, Try.results10, go_sem, r0, r1, r2, r3, r4, zeroV]) rfl ?_
    exact ⟨hB4.out.trans (put5_below (by omega) _ _ _ _ _), .inl ⟨hd0, rfl⟩⟩
  · have hX4 : Row5 w4 (w.heap.size + 1) (.int .i64 k5) (.int .i64 x5) (.string tx5) (.slice an5 ln5 cn5) (.slice ai5 li5 ci5) := row5_of ((hb4.block _ (by simp)).trans (hn2 _ _ _))
    have hRs : Row5 w4 (w.heap.size + 1 + 1) (.int .i64 0) (.int .i64 0) (.string ⟨#[]⟩) (.slice none 0 0) (.slice none 0 0) := row5_of ((hb4.block _ (by simp)).trans (hn3 _ _ _))
    have hB4 : Below w.heap.size w w4 := (hB0 _ _ _).trans (hb4.mono (by simp; omega))
    have hsz : w.heap.size + 3 ≤ w4.heap.size := by have := hb4.size; simp at this; omega
    clear hdn hB0 hn2 hn3 hb4
    have hlen : ts.length ≤ l.length := by have := downT_len l t; rw [hd.out, ← hts] at this; simpa using this
    have hlen2 : (l.drop ts.length).length = l.length - ts.length := by simp
    have hset : Hid (setT t l X = upS (ts.map Trn.st) (nestS (l.drop ts.length) X)) := hid_of (by unfold setT; rw [hd.out, ← hts, List.length_map])
    have hok2 : ∀ tn ∈ ts, tn.Ok w ∧ (tn.its.length + 1) * 80 ≤ 140737488355328 := fun tn h => ⟨hok tn h, by
      have := hb.out tn.st (by rw [← hts]; exact List.mem_map_of_mem h)
      exact this⟩
    obtain ⟨at0, ct0, rfl⟩ := ownsRow_slice hown
    obtain ⟨⟨x0', -⟩, ⟨x1', -⟩, ⟨x2', -⟩, ⟨x3', -⟩, ⟨x4', -⟩⟩ := id hX4
    have hV4 : Seen w4.drew (· < w.heap.size) X _ := ((seen_rep hX.out).keep hB4).keep (below_drew (Below.refl _ _))
    have hdd : (d.1 == 0) = true := by simp [hd0]
    rw [hd0]
    clear hdd hok hts
    replace hd0 := hid_of hd0
    replace hown := hid_of hown; replace hok2 := hid_of hok2
    have e1 : (ts.length : Int) ≤ (l.length : Int) := by omega
    have e2 : (ts.length : Int) ≤ (c : Int) := by omega
    have e3 : (l.length : Int) ≤ (c : Int) := by omega
    have e4 : (0 : Int) ≤ (ts.length : Int) := by omega
    have hS4 : ∀ k, k < w.heap.size → k < w4.drew.heap.size := fun k hk => by show k < w4.heap.size; omega
    replace hB4 := hid_of hB4; replace hsz := hid_of hsz; replace hRs := hid_of hRs
    by_cases hr : l.length = ts.length
    · have hnil : l.drop ts.length = [] := List.drop_eq_nil_of_le (by omega)
      have hwi := fun a' c' => within_rest w4.drew a' c' (l.drop ts.length) (by omega) (.inl hnil) k5 x5 tx5 an5 ln5 cn5 ai5 li5 ci5 X (· < w.heap.size) hS4 hV4
      have hsub : l.length - ts.length = 0 := by omega
      rw [hlen2, hsub] at hwi
      replace hwi := hid_of hwi
      clear hV hX hP hA hV4 hS4 hb hd hS hlen2 hnil
      by_cases hcpne : c = ts.length
      all_goals cases a
      all_goals
        go_wp2_with fail
        go_region_with (first
          | (go_at_call 30; go_fit (hwi.out _ _); clear hwi; rintro e w5 ⟨hb5, cs5, rfl, hV5⟩; obtain ⟨k6, x6, s6, an6, ln6, cn6, ai6, li6, ci6, hcs5⟩ := vrep_five hV5.rep; subst hcs5; have hb45 : Below w4.heap.size w4 w5 := drew_below hb5; have hs45 := hb45.size; have hB5 : Below w.heap.size w w5 := hB4.out.trans (hb45.mono hB4.out.size); have hup := hid_of (up_turns w w5 hB5 ts (.slice at0 ts.length ct0) _ (ownsRow_below hown.out hb45) hok2.out k6 x6 s6 an6 ln6 cn6 ai6 li6 ci6 _ (fun k => k < w.heap.size ∨ (w4.heap.size + 1 < k ∧ k < w5.heap.size)) (fun k hk => by have := hB5.size; omega) (fun k hk => .inl hk) (seen_in hV5)); have hRs5 : Row5 w5 (w.heap.size + 1 + 1) (.int .i64 0) (.int .i64 0) (.string ⟨#[]⟩) (.slice none 0 0) (.slice none 0 0) := hRs.out.below hb45; clear hb5 hb45 hV5 x0' x1' x2' x3' x4' hX4 hRs; simp only [five])
          | (go_at_call 29; go_fit hup.out; clear hup; rintro e w6 ⟨hb6, cs6, rfl, hV6⟩; obtain ⟨k7, x7, s7, an7, ln7, cn7, ai7, li7, ci7, hcs6⟩ := vrep_five hV6.rep; subst hcs6; have hRs6 := hRs5.below hb6; replace hV6 := hid_of hV6; obtain ⟨⟨z0, zf0⟩, ⟨z1, zf1⟩, ⟨z2, zf2⟩, ⟨z3, zf3⟩, ⟨z4, zf4⟩⟩ := id hRs6; simp only [five]))
        go_wp2_with fail
        have hlt6 := hRs6.lt
        have hR7 := hRs6.put (.int .i64 k7) (.int .i64 x7) (.string s7) (.slice an7 ln7 cn7) (.slice ai7 li7 ci7)
        unfold put5 at hR7
        obtain ⟨⟨r0, -⟩, ⟨r1, -⟩, ⟨r2, -⟩, ⟨r3, -⟩, ⟨r4, -⟩⟩ := hR7
        refine bodyPost_ret (v := .tuple #[.agg #[.int .i64 k7, .int .i64 x7, .string s7, .slice an7 ln7 cn7, .slice ai7 li7 ci7], .int .i64 0]) (by simp [results, Try.results10, go_sem, r0, r1, r2, r3, r4]) rfl ?_
        clear r0 r1 r2 r3 r4
        have hsz1 := hsz.out
        refine ⟨(hB5.trans (hb6.mono hB5.size)).trans (put5_below (by omega) _ _ _ _ _), .inr ⟨hd0.out, five k7 x7 s7 (.slice an7 ln7 cn7) (.slice ai7 li7 ci7), rfl, ?_⟩⟩
        rw [hset.out]
        exact hV6.out _ ⟨Nat.le_of_eq (put5_size _ _ _ _ _ _ _).symm, fun p u hp hc => (World.cell?_of_block (w := w6) (put5_far _ _ _ _ _ (show p.block ≠ w.heap.size + 1 + 1 from fun e => by
          have hp' : (p.block < w.heap.size ∨ (w4.heap.size + 1 < p.block ∧ p.block < w5.heap.size)) ∨ w5.heap.size + 1 < p.block := hp
          omega))).trans hc⟩
    · obtain ⟨b, o, rfl, hbl, hAc⟩ := hA.out.resolve_left (by intro e; apply hr; rw [e] at hlen ⊢; simp only [List.length_nil] at *; omega)
      have hwi := hid_of (within_rest w4.drew (some ⟨b, o + ts.length, none⟩) (c - ts.length) (l.drop ts.length) (by omega) (.inr ⟨b, o + ts.length, rfl, fun j s hj => by
        rw [List.getElem?_drop] at hj
        have := hAc _ s hj
        rw [Nat.add_assoc]
        exact (hB4.out.cell (p := ⟨b, o + (ts.length + j), none⟩) hbl).trans this⟩) k5 x5 tx5 an5 ln5 cn5 ai5 li5 ci5 X (· < w.heap.size) hS4 hV4)
      rw [hlen2] at hwi
      have hcpne : ¬ c = ts.length := by omega
      clear hV hX hP hA hAc hV4 hS4 hb hd hS hlen2
      go_wp2_with fail
      go_region_with (first
        | (go_at_call 30; go_fit hwi.out; clear hwi; rintro e w5 ⟨hb5, cs5, rfl, hV5⟩; obtain ⟨k6, x6, s6, an6, ln6, cn6, ai6, li6, ci6, hcs5⟩ := vrep_five hV5.rep; subst hcs5; have hb45 : Below w4.heap.size w4 w5 := drew_below hb5; have hs45 := hb45.size; have hB5 : Below w.heap.size w w5 := hB4.out.trans (hb45.mono hB4.out.size); have hup := hid_of (up_turns w w5 hB5 ts (.slice at0 ts.length ct0) _ (ownsRow_below hown.out hb45) hok2.out k6 x6 s6 an6 ln6 cn6 ai6 li6 ci6 _ (fun k => k < w.heap.size ∨ (w4.heap.size + 1 < k ∧ k < w5.heap.size)) (fun k hk => by have := hB5.size; omega) (fun k hk => .inl hk) (seen_in hV5)); have hRs5 : Row5 w5 (w.heap.size + 1 + 1) (.int .i64 0) (.int .i64 0) (.string ⟨#[]⟩) (.slice none 0 0) (.slice none 0 0) := hRs.out.below hb45; clear hb5 hb45 hV5 x0' x1' x2' x3' x4' hX4 hRs; simp only [five])
        | (go_at_call 29; go_fit hup.out; clear hup; rintro e w6 ⟨hb6, cs6, rfl, hV6⟩; obtain ⟨k7, x7, s7, an7, ln7, cn7, ai7, li7, ci7, hcs6⟩ := vrep_five hV6.rep; subst hcs6; have hRs6 := hRs5.below hb6; replace hV6 := hid_of hV6; obtain ⟨⟨z0, zf0⟩, ⟨z1, zf1⟩, ⟨z2, zf2⟩, ⟨z3, zf3⟩, ⟨z4, zf4⟩⟩ := id hRs6; simp only [five]))
      go_wp2_with fail
      have hlt6 := hRs6.lt
      have hR7 := hRs6.put (.int .i64 k7) (.int .i64 x7) (.string s7) (.slice an7 ln7 cn7) (.slice ai7 li7 ci7)
      unfold put5 at hR7
      obtain ⟨⟨r0, -⟩, ⟨r1, -⟩, ⟨r2, -⟩, ⟨r3, -⟩, ⟨r4, -⟩⟩ := hR7
      refine bodyPost_ret (v := .tuple #[.agg #[.int .i64 k7, .int .i64 x7, .string s7, .slice an7 ln7 cn7, .slice ai7 li7 ci7], .int .i64 0]) (by simp [results, Try.results10, go_sem, r0, r1, r2, r3, r4]) rfl ?_
      clear r0 r1 r2 r3 r4
      have hsz1 := hsz.out
      refine ⟨(hB5.trans (hb6.mono hB5.size)).trans (put5_below (by omega) _ _ _ _ _), .inr ⟨hd0.out, five k7 x7 s7 (.slice an7 ln7 cn7) (.slice ai7 li7 ci7), rfl, ?_⟩⟩
      rw [hset.out]
      exact hV6.out _ ⟨Nat.le_of_eq (put5_size _ _ _ _ _ _ _).symm, fun p u hp hc => (World.cell?_of_block (w := w6) (put5_far _ _ _ _ _ (show p.block ≠ w.heap.size + 1 + 1 from fun e => by
        have hp' : (p.block < w.heap.size ∨ (w4.heap.size + 1 < p.block ∧ p.block < w5.heap.size)) ∨ w5.heap.size + 1 < p.block := hp
        omega))).trans hc⟩
end Go.Proofs.Ytmlbofbnklmedaa
