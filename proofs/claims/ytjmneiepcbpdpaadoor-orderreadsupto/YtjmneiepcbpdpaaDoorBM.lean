import Derived.Test.YtjmneiepcbpdpaaDoorBL
/-! The reader's lists: the walk. -/
namespace Go.Proofs.YtjmneiepcbpdpaaDoor
open Go Go.RowKit

theorem five_cs (k x : Int) (s : ByteArray) (an : Option Addr) (ln cn : Nat) (ai : Option Addr) (li ci : Nat) : (five k x s (.slice an ln cn) (.slice ai li ci)).length = 5 := rfl
set_option maxHeartbeats 8000000 in
set_option maxRecDepth 100000 in
theorem list_code (r g cap p d : Nat) (l : List UInt8) (val : Nat → Rd Tr) (w : World) (hB : Hid (Base w r g cap l)) (h : Hid (At w r g cap l.length p)) (hp : p ≤ l.length) (hd : d ≤ 63) (hval : Hid (ValOk val r g cap l ((d : Int) + 1)))
    (hno : Hid (∀ q e q', val q = .no e q' → e ≠ 0)) (hle : Hid (∀ q t q', val q = .ok t q' → q < q' ∧ q' ≤ l.length)) :
    Calls Tryd.prog 29 #[.pointer (some ⟨r, 0, none⟩), .int .i64 (d : Int)] w (ValPost w r g cap l (listR val l (l.length + 1) p [])) := by
  have hlen := hB.out.len
  have hrl := hB.out.lt
  obtain ⟨R, hR⟩ : ∃ R, Hid (listR val l (l.length + 1) p [] = R) := ⟨_, hid_e rfl⟩
  rw [hR.out]
  go_enter Tryd.func29, Tryd.ntmps29
  go_wp2_with fail
  have hL0 : LAt w r g cap l.length p 5 (.slice none 0 0) (.slice none 0 0) ((w.alloc (.cells #[.int .i64 0, .int .i64 0, .string ⟨#[]⟩, .slice none 0 0, .slice none 0 0] 25)).alloc (.cells #[.int .i64 5, .int .i64 0, .string ⟨#[]⟩, .slice none 0 0, .slice none 0 0] 25)) :=
    ⟨h.out.keep (S := fun _ => False) (((Fr.refl _ w).alloc _).alloc _) (fun e => e), ((Fr.refl _ w).alloc _).alloc _, new1 w _ _, new2 w _ _⟩
  go_loopg [] (l.length + 1) (fun gk wr => ∃ (q : Nat) (its : List Tr) (xs : List Value) (ao : Option Addr) (ci : Nat), q ≤ l.length ∧ l.length - q < gk ∧ its.length ≤ q ∧ Hid (LAt w r g cap l.length q 5 (.slice none 0 0) (.slice ao its.length ci) wr) ∧ Hid (wr.ownsRow (w.heap.size + 2) 25 5 (.slice ao its.length ci) its.length xs) ∧ Hid (ItsSeen w (fun j => (Value.slice ao its.length ci).ownBlock = some j) its xs wr) ∧ Hid (listR val l gk q its = R))
  case atStart => exact ⟨p, [], [], none, 0, hp, by omega, Nat.zero_le _, hid_e hL0, hid_e (World.ownsRow_nil _ _ _ _), hid_e (fun W' _ => by unfold ItemsRep; rfl), hR⟩
  case round =>
    clear hL0 hR h
    obtain ⟨q, its, xs, ao, ci, hq, hgk, hil, hL, hO, hS, hK⟩ := hrel
    obtain ⟨g', rfl⟩ : ∃ g', gk = g' + 1 := ⟨gk - 1, by omega⟩
    have hm := hid_e (more_code r g cap q l wr (hB.out.keepR hL.out.fr) hL.out.at_ hq)
    go_wp2_with fail
    go_fit hm.out
    rintro e1 w1 ⟨rfl, hA1, hF1⟩
    clear hm
    cases hM : moreR l q with
    | no e q1 =>
      rw [hM] at hA1
      have hRe : Hid (R = .no e q1) := by rw [Hid, ← hK.out, listR, hM]
      have hL1 := hL.out.next hrl hA1 hF1
      have b1 : (Rd.no e q1 : Rd Bool).bool = false := rfl
      have b2 : (Rd.no e q1 : Rd Bool).code = e := rfl
      obtain ⟨z0, z1, z2, z3, z4, -⟩ := row_cells hL1.box
      obtain ⟨v0, v1, v2, v3, v4, vf⟩ := row_cells hL1.res
      have vf0 := vf 0; have vf1 := vf 1; have vf2 := vf 2; have vf3 := vf 3; have vf4 := vf 4
      clear vf
      go_wp2_with fail
      have hr5 := put5_cells hL1.res (.int .i64 5) (.int .i64 0) (.string ⟨#[]⟩) (.slice none 0 0) (.slice ao its.length ci)
      have r0 := hr5 0; have r1 := hr5 1; have r2 := hr5 2; have r3 := hr5 3; have r4 := hr5 4
      clear hr5
      refine bodyPost_ret (v := .tuple #[.agg #[.int .i64 5, .int .i64 0, .string ⟨#[]⟩, .slice none 0 0, .slice ao its.length ci], .int .i64 e]) (by simp [results, Tryd.results29, go_sem, r0, r1, r2, r3, r4]) rfl ?_
      rw [hRe.out]
      exact ⟨_, _, _, _, _, _, _, _, _, rfl, (fun t q e => by cases e), (put5_far _ _ _ _ _ (by omega)).trans hL1.at_, hL1.fr.put5 (.inr (Nat.le_refl _)) _ _ _ _ _⟩
    | ok b q1 =>
      rw [hM] at hA1
      have hL1 := hL.out.next hrl hA1 hF1
      have b2 : (Rd.ok b q1 : Rd Bool).code = 0 := rfl
      cases b
      · have hRe : Hid (R = .ok (.node 5 0 noS [] its) q1) := by rw [Hid, ← hK.out, listR, hM]
        have b1 : (Rd.ok false q1 : Rd Bool).bool = false := rfl
        have hE := fun c0 c1 c2 c3 c4 => hid_e (list_end hL1 (ownsRow_keep hO.out (fun j hj => hF1.block j (ownsRow_ge hO.out hj).2 (by have := (ownsRow_ge hO.out hj).1; omega))) (hS.out.next hrl hF1) c0 c1 c2 c3 c4)
        obtain ⟨z0, z1, z2, z3, z4, -⟩ := row_cells hL1.box
        obtain ⟨v0, v1, v2, v3, v4, vf⟩ := row_cells hL1.res
        have vf0 := vf 0; have vf1 := vf 1; have vf2 := vf 2; have vf3 := vf 3; have vf4 := vf 4
        clear vf
        go_wp2_with fail
        have hr5 := put5_cells hL1.res (.int .i64 5) (.int .i64 0) (.string ⟨#[]⟩) (.slice none 0 0) (.slice ao its.length ci)
        have r0 := hr5 0; have r1 := hr5 1; have r2 := hr5 2; have r3 := hr5 3; have r4 := hr5 4
        clear hr5
        refine bodyPost_ret (v := .tuple #[.agg #[.int .i64 5, .int .i64 0, .string ⟨#[]⟩, .slice none 0 0, .slice ao its.length ci], .int .i64 0]) (by simp [results, Tryd.results29, go_sem, r0, r1, r2, r3, r4]) rfl ?_
        rw [hRe.out]
        refine ⟨_, _, _, _, _, _, _, _, _, rfl, (fun t q e => ?_), (put5_far _ _ _ _ _ (by omega)).trans hL1.at_, hL1.fr.put5 (.inr (Nat.le_refl _)) _ _ _ _ _⟩
        cases e
        exact (hE _ _ _ _ _).out
      · have b1 : (Rd.ok true q1 : Rd Bool).bool = true := rfl
        obtain ⟨m1, m2, m3⟩ := more_true hM
        have hd1 : (d : Int) ≤ 100 := by omega
        have hvl := hid_e (hval.out q1 w1 (hB.out.keepR hL1.fr) hA1 (by omega))
        clear m1
        go_wp2_with fail
        go_fit hvl.out
        clear hvl
        rintro e2 w2 ⟨k2, x2, s2, an2, ln2, cn2, ai2, li2, ci2, rfl, hsn, hA2, hF2⟩
        have hL2 := hL1.next hrl hA2 hF2
        cases hV : val q1 with
        | no e q2 =>
          rw [hV] at hA2 hL2
          have hRe : Hid (R = .no e q2) := by
            rw [Hid, ← hK.out, listR, hM]
            simp only
            rw [hV]
          have he : (e == 0) = false := by simpa using hno.out q1 e q2 hV
          have b3 : (Rd.no e q2 : Rd Tr).code = e := rfl
          have hL3 := hL2.next hrl (hA2.keep (S := fun _ => False) ((Fr.refl _ w2).alloc (.cells #[.int .i64 k2, .int .i64 x2, .string s2, .slice an2 ln2 cn2, .slice ai2 li2 ci2] 25)) (fun e => e)) ((Fr.refl _ w2).alloc (.cells #[.int .i64 k2, .int .i64 x2, .string s2, .slice an2 ln2 cn2, .slice ai2 li2 ci2] 25))
          obtain ⟨v0, v1, v2, v3, v4, vf⟩ := row_cells hL3.res
          have vf0 := vf 0; have vf1 := vf 1; have vf2 := vf 2; have vf3 := vf 3; have vf4 := vf 4
          clear vf
          go_wp2_with fail
          have hr5 := put5_cells hL3.res (.int .i64 0) (.int .i64 0) (.string ⟨#[]⟩) (.slice none 0 0) (.slice none 0 0)
          have r0 := hr5 0; have r1 := hr5 1; have r2 := hr5 2; have r3 := hr5 3; have r4 := hr5 4
          clear hr5
          refine bodyPost_ret (v := .tuple #[.agg #[.int .i64 0, .int .i64 0, .string ⟨#[]⟩, .slice none 0 0, .slice none 0 0], .int .i64 e]) (by simp [results, Tryd.results29, go_sem, r0, r1, r2, r3, r4]) rfl ?_
          rw [hRe.out]
          exact ⟨_, _, _, _, _, _, _, _, _, rfl, (fun t q e => by cases e), (put5_far _ _ _ _ _ (by omega)).trans hL3.at_, hL3.fr.put5 (.inr (Nat.le_refl _)) _ _ _ _ _⟩
        | ok u q2 =>
          rw [hV] at hA2 hL2 hsn
          have b3 : (Rd.ok u q2 : Rd Tr).code = 0 := rfl
          obtain ⟨hq1, hq2⟩ := hle.out q1 u q2 hV
          have hK2 : Hid (listR val l g' q2 (its ++ [u]) = R) := by
            rw [Hid, ← hK.out, listR, hM]
            simp only
            rw [hV]
          have hsu := hsn u q2 rfl
          clear hsn
          have hFa : Fr (· = r) wr ((w2.alloc (.cells #[.int .i64 k2, .int .i64 x2, .string s2, .slice an2 ln2 cn2, .slice ai2 li2 ci2] 25)).alloc (.cells #[.int .i64 k2, .int .i64 x2, .string s2, .slice an2 ln2 cn2, .slice ai2 li2 ci2] 25)) := ((hF1.trans hF2).alloc _).alloc _
          have hAa : At ((w2.alloc (.cells #[.int .i64 k2, .int .i64 x2, .string s2, .slice an2 ln2 cn2, .slice ai2 li2 ci2] 25)).alloc (.cells #[.int .i64 k2, .int .i64 x2, .string s2, .slice an2 ln2 cn2, .slice ai2 li2 ci2] 25)) r g cap l.length q2 := hA2.keep (S := fun _ => False) (((Fr.refl _ w2).alloc _).alloc _) (fun e => e)
          have hOa := hid_e (ownsRow_keep (w' := (w2.alloc (.cells #[.int .i64 k2, .int .i64 x2, .string s2, .slice an2 ln2 cn2, .slice ai2 li2 ci2] 25)).alloc (.cells #[.int .i64 k2, .int .i64 x2, .string s2, .slice an2 ln2 cn2, .slice ai2 li2 ci2] 25)) hO.out (fun j hj => hFa.block j (ownsRow_ge hO.out hj).2 (by have := (ownsRow_ge hO.out hj).1; omega)))
          have hsa : Seen ((w2.alloc (.cells #[.int .i64 k2, .int .i64 x2, .string s2, .slice an2 ln2 cn2, .slice ai2 li2 ci2] 25)).alloc (.cells #[.int .i64 k2, .int .i64 x2, .string s2, .slice an2 ln2 cn2, .slice ai2 li2 ci2] 25)) (fun j => wr.heap.size ≤ j) u (five k2 x2 s2 (.slice an2 ln2 cn2) (.slice ai2 li2 ci2)) := ((hsu.wide (fun k hk => Nat.le_trans hF1.size hk)).keep (((Below.refl _ w2).alloc (Nat.le_refl _) _))).keep ((Below.refl _ _).alloc (Nat.le_refl _) _)
          have hLa := hL.out.next hrl hAa hFa
          have hLb := hL2.next hrl (hA2.keep (S := fun _ => False) ((Fr.refl _ w2).alloc (.cells #[.int .i64 k2, .int .i64 x2, .string s2, .slice an2 ln2 cn2, .slice ai2 li2 ci2] 25)) (fun e => e)) ((Fr.refl _ w2).alloc (.cells #[.int .i64 k2, .int .i64 x2, .string s2, .slice an2 ln2 cn2, .slice ai2 li2 ci2] 25))
          obtain ⟨-, -, -, -, z4, -⟩ := row_cells hLb.box
          have hne : (Value.slice ao its.length ci).ownBlock ≠ some (w.heap.size + 1) := fun e => by have := (ownsRow_ge hO.out e).1; omega
          have hbx := hLa.box
          have hbl : w.heap.size + 2 ≤ wr.heap.size := (Array.getElem?_eq_some_iff.1 hL.out.box).1
          have hws := hF1.size
          have hws2 := hF2.size
          have hnw := new2 w2 (.cells #[.int .i64 k2, .int .i64 x2, .string s2, .slice an2 ln2 cn2, .slice ai2 li2 ci2] 25) (.cells #[.int .i64 k2, .int .i64 x2, .string s2, .slice an2 ln2 cn2, .slice ai2 li2 ci2] 25)
          obtain ⟨i0, hi, hz0, hz1, hz2⟩ := info_parts AV
          go_wp2_with (at_builtin; refine wpList_append_lies _ rfl _ _ 23 rfl (w.heap.size + 2) 25 i0 _ 5 80 Tryd.underlying23 hi hz0 hz1 hz2 rfl (by decide) _ its.length xs rfl hOa.out _ 1 1 [.int .i64 k2, .int .i64 x2, .string s2, .slice an2 ln2 cn2, .slice ai2 li2 ci2] rfl rfl (World.news_of_block hnw) (five_one _ _ _ _ _ _ _ _ _) (by decide) (by unfold maxLen; omega) (by omega) (by simp only [World.size_alloc]; omega) _ rfl ?_; intro g4 cap4 w5 hown5 hgrow5 hat5 hlt5; have hbx5 := (World.grownBy.block hgrow5 (w.heap.size + 1) (by simp only [World.size_alloc]; omega) (fun e => hne e.symm)).trans hbx; obtain ⟨-, -, -, -, n4, nf⟩ := row_cells hbx5; have nf4 := nf 4; clear nf; replace hown5 := hid_e hown5; replace hgrow5 := hid_e hgrow5; replace hat5 := hid_e hat5; clear hlt5)
          go_roundg g'
          case measure => omega
          case rel =>
            obtain ⟨t1, t2, t3⟩ := list_step hrl hL.out hO.out hS.out hFa hAa hsa (five_cs _ _ _ _ _ _ _ _ _) hgrow5.out hat5.out hown5.out
            have e1 : (its ++ [u]).length = its.length + 1 := by simp
            refine ⟨q2, its ++ [u], xs ++ five k2 x2 s2 (.slice an2 ln2 cn2) (.slice ai2 li2 ci2), some ⟨g4, 0, none⟩, cap4, hq2, by omega, by omega, ?_⟩
            rw [e1]
            exact ⟨hid_e t1, hid_e t2, hid_e t3, hK2⟩
end Go.Proofs.YtjmneiepcbpdpaaDoor
