import Derived.Test.YtjmneiepcbpdpaaDoorBQ
import Derived.Test.YtjmneiepcbpdpaaDoorU1
/-! The reader's objects: the walk. -/
namespace Go.Proofs.YtjmneiepcbpdpaaDoor
open Go Go.RowKit Go.Maps

theorem str_one (s : ByteArray) : ∀ u ∈ [Value.string s], u.oneCell' = true := by
  intro u hu
  simp only [List.mem_cons, List.not_mem_nil, or_false] at hu
  rw [hu]; rfl
set_option maxHeartbeats 8000000 in
set_option maxRecDepth 100000 in
theorem obj_code (r g cap p d : Nat) (l : List UInt8) (val : Nat → Rd Tr) (w : World) (hB : Hid (Base w r g cap l)) (h : Hid (At w r g cap l.length p)) (hp : p ≤ l.length) (hd : d ≤ 63) (hval : Hid (ValOk val r g cap l ((d : Int) + 1)))
    (hno : Hid (∀ q e q', val q = .no e q' → e ≠ 0)) (hle : Hid (∀ q t q', val q = .ok t q' → q < q' ∧ q' ≤ l.length)) :
    Calls Tryd.prog 28 #[.pointer (some ⟨r, 0, none⟩), .int .i64 (d : Int)] w (ValPost w r g cap l (objR val l (l.length + 1) p [] [])) := by
  have hlen := hB.out.len
  have hrl := hB.out.lt
  obtain ⟨R, hR⟩ : ∃ R, Hid (objR val l (l.length + 1) p [] [] = R) := ⟨_, hid_e rfl⟩
  rw [hR.out]
  have hmk := make_none
  go_enter Tryd.func28, Tryd.ntmps28
  go_wp2_with fail
  have hL0 : OAt w r g cap l.length p [] [] [] none 0 none 0 (((w.alloc (.cells #[.int .i64 0, .int .i64 0, .string ⟨#[]⟩, .slice none 0 0, .slice none 0 0] 25)).alloc (.cells #[.int .i64 6, .int .i64 0, .string ⟨#[]⟩, .slice none 0 0, .slice none 0 0] 25)).alloc (.map #[] 0)) := by
    refine ⟨⟨h.out.keep (S := fun _ => False) ((((Fr.refl _ w).alloc _).alloc _).alloc _) (fun e => e), (((Fr.refl _ w).alloc _).alloc _).alloc _, ?_, ?_⟩, ?_, World.ownsRow_nil _ _ _ _, World.ownsRow_nil _ _ _ _, (fun j e => by cases e), (fun W' _ => by unfold ItemsRep; rfl)⟩
    · exact (Below.heap_alloc _ _ _ (by simp only [World.size_alloc]; omega)).trans (new1 w _ _)
    · exact (Below.heap_alloc _ _ _ (by simp only [World.size_alloc]; omega)).trans (new2 w _ _)
    · have h0 : SetAt ((w.alloc (.cells #[.int .i64 0, .int .i64 0, .string ⟨#[]⟩, .slice none 0 0, .slice none 0 0] 25)).alloc (.cells #[.int .i64 6, .int .i64 0, .string ⟨#[]⟩, .slice none 0 0, .slice none 0 0] 25)).heap.size [] (((w.alloc (.cells #[.int .i64 0, .int .i64 0, .string ⟨#[]⟩, .slice none 0 0, .slice none 0 0] 25)).alloc (.cells #[.int .i64 6, .int .i64 0, .string ⟨#[]⟩, .slice none 0 0, .slice none 0 0] 25)).alloc (.map #[] 0)) := World.ownsMap_made _ _ _ _
      simp only [World.size_alloc] at h0
      exact h0
  go_loopg [] (l.length + 1) (fun gk wr => ∃ (q : Nat) (ns : List ByteArray) (its : List Tr) (xs : List Value) (an : Option Addr) (cn : Nat) (ao : Option Addr) (ci : Nat), q ≤ l.length ∧ l.length - q < gk ∧ its.length ≤ q ∧ Hid (ns.length = its.length) ∧ Hid (OAt w r g cap l.length q ns its xs an cn ao ci wr) ∧ Hid (objR val l gk q ns its = R))
  case atStart => exact ⟨p, [], [], [], none, 0, none, 0, hp, by omega, Nat.zero_le _, hid_e rfl, hid_e hL0, hR⟩
  case round =>
    clear hL0 hR h hmk
    obtain ⟨q, ns, its, xs, an, cn, ao, ci, hq, hgk, hil, hni, hO, hK⟩ := hrel
    obtain ⟨g', rfl⟩ : ∃ g', gk = g' + 1 := ⟨gk - 1, by omega⟩
    have hm := hid_e (more_code r g cap q l wr (hB.out.keepR hO.out.lat.fr) hO.out.lat.at_ hq)
    go_wp2_with fail
    go_fit hm.out
    rintro e1 w1 ⟨rfl, hA1, hF1⟩
    clear hm
    cases hM : moreR l q with
    | no e q1 =>
      rw [hM] at hA1
      have hRe : Hid (R = .no e q1) := by rw [Hid, ← hK.out, objR, hM]
      have hO1 := hO.out.next hrl hA1 hF1
      have b1 : (Rd.no e q1 : Rd Bool).bool = false := rfl
      have b2 : (Rd.no e q1 : Rd Bool).code = e := rfl
      obtain ⟨z0, z1, z2, z3, z4, -⟩ := row_cells hO1.lat.box
      obtain ⟨v0, v1, v2, v3, v4, vf⟩ := row_cells hO1.lat.res
      have vf0 := vf 0; have vf1 := vf 1; have vf2 := vf 2; have vf3 := vf 3; have vf4 := vf 4
      clear vf
      go_wp2_with fail
      have hr5 := put5_cells hO1.lat.res (.int .i64 6) (.int .i64 0) (.string ⟨#[]⟩) (.slice an ns.length cn) (.slice ao its.length ci)
      have r0 := hr5 0; have r1 := hr5 1; have r2 := hr5 2; have r3 := hr5 3; have r4 := hr5 4
      clear hr5
      refine bodyPost_ret (v := .tuple #[.agg #[.int .i64 6, .int .i64 0, .string ⟨#[]⟩, .slice an ns.length cn, .slice ao its.length ci], .int .i64 e]) (by simp [results, Tryd.results28, go_sem, r0, r1, r2, r3, r4]) rfl ?_
      rw [hRe.out]
      exact ⟨_, _, _, _, _, _, _, _, _, rfl, (fun t q e => by cases e), (put5_far _ _ _ _ _ (by omega)).trans hO1.lat.at_, hO1.lat.fr.put5 (.inr (Nat.le_refl _)) _ _ _ _ _⟩
    | ok b q1 =>
      rw [hM] at hA1
      have hO1 := hO.out.next hrl hA1 hF1
      have b2 : (Rd.ok b q1 : Rd Bool).code = 0 := rfl
      cases b
      · have hRe : Hid (R = .ok (.node 6 0 noS ns its) q1) := by rw [Hid, ← hK.out, objR, hM]
        have b1 : (Rd.ok false q1 : Rd Bool).bool = false := rfl
        have hE := fun c0 c1 c2 c3 c4 => hid_e (obj_end hO1 hni.out c0 c1 c2 c3 c4)
        obtain ⟨z0, z1, z2, z3, z4, -⟩ := row_cells hO1.lat.box
        obtain ⟨v0, v1, v2, v3, v4, vf⟩ := row_cells hO1.lat.res
        have vf0 := vf 0; have vf1 := vf 1; have vf2 := vf 2; have vf3 := vf 3; have vf4 := vf 4
        clear vf
        go_wp2_with fail
        have hr5 := put5_cells hO1.lat.res (.int .i64 6) (.int .i64 0) (.string ⟨#[]⟩) (.slice an ns.length cn) (.slice ao its.length ci)
        have r0 := hr5 0; have r1 := hr5 1; have r2 := hr5 2; have r3 := hr5 3; have r4 := hr5 4
        clear hr5
        refine bodyPost_ret (v := .tuple #[.agg #[.int .i64 6, .int .i64 0, .string ⟨#[]⟩, .slice an ns.length cn, .slice ao its.length ci], .int .i64 0]) (by simp [results, Tryd.results28, go_sem, r0, r1, r2, r3, r4]) rfl ?_
        rw [hRe.out]
        refine ⟨_, _, _, _, _, _, _, _, _, rfl, (fun t q e => ?_), (put5_far _ _ _ _ _ (by omega)).trans hO1.lat.at_, hO1.lat.fr.put5 (.inr (Nat.le_refl _)) _ _ _ _ _⟩
        cases e
        exact (hE _ _ _ _ _).out
      · have b1 : (Rd.ok true q1 : Rd Bool).bool = true := rfl
        obtain ⟨m1, m2, m3⟩ := more_true hM
        clear m1
        have hnl : ns.length ≤ 1000000000 := by have := hni.out; omega
        have hnm := hid_e (name_code r g cap q1 (w.heap.size + 2) l ns w1 (hid_e (hB.out.keepR hO1.lat.fr)) (hid_e hA1) (by omega) (by omega) (hid_e hO1.set) hnl)
        obtain ⟨NR, hNR⟩ : ∃ N, Hid (nameR ns l q1 = N) := ⟨_, hid_e rfl⟩
        rw [hNR.out] at hnm
        go_wp2_with fail
        go_fit hnm.out
        clear hnm
        rintro e2 w2 ⟨rfl, hA2, hF2, hS2⟩
        have hFw2 : Fr (· = r) w w2 := hO1.lat.fr.next hF2 (fun i e => e.elim .inl (fun e => .inr (by omega)))
        have hres2 := (hF2.block _ (Array.getElem?_eq_some_iff.1 hO1.lat.res).1 (by omega)).trans hO1.lat.res
        cases NR with
        | no e q2 =>
          have he0 := name_no hNR.out
          have he : (e == 0) = false := by simpa using he0
          have b3 : (Rd.no e q2 : Rd ByteArray).code = e := rfl
          have hRe : Hid (R = .no e q2) := by
            rw [Hid, ← hK.out, objR, hM]
            have hn := hNR.out
            unfold nameR at hn
            simp only
            cases hx : textR l q1 with
            | no e3 q3 => rw [hx] at hn; simp only at hn ⊢; cases hn; rfl
            | ok n3 q3 =>
              rw [hx] at hn
              simp only at hn ⊢
              split at hn
              · rename_i hh; cases hn; rw [if_pos hh]
              · cases hn
          obtain ⟨v0, v1, v2, v3, v4, vf⟩ := row_cells hres2
          have vf0 := vf 0; have vf1 := vf 1; have vf2 := vf 2; have vf3 := vf 3; have vf4 := vf 4
          clear vf
          go_wp2_with fail
          have hr5 := put5_cells hres2 (.int .i64 0) (.int .i64 0) (.string ⟨#[]⟩) (.slice none 0 0) (.slice none 0 0)
          have r0 := hr5 0; have r1 := hr5 1; have r2 := hr5 2; have r3 := hr5 3; have r4 := hr5 4
          clear hr5
          refine bodyPost_ret (v := .tuple #[.agg #[.int .i64 0, .int .i64 0, .string ⟨#[]⟩, .slice none 0 0, .slice none 0 0], .int .i64 e]) (by simp [results, Tryd.results28, go_sem, r0, r1, r2, r3, r4]) rfl ?_
          rw [hRe.out]
          exact ⟨_, _, _, _, _, _, _, _, _, rfl, (fun t q e => by cases e), (put5_far _ _ _ _ _ (by omega)).trans hA2, hFw2.put5 (.inr (Nat.le_refl _)) _ _ _ _ _⟩
        | ok nm q2 =>
          have b3 : (Rd.ok nm q2 : Rd ByteArray).code = 0 := rfl
          have b4 : (Rd.ok nm q2 : Rd ByteArray).text = nm := rfl
          have hnok := name_ok hNR.out
          obtain ⟨-, t2, t3, -⟩ := text_sound hnok.1
          have hd1 : (d : Int) ≤ 100 := by omega
          have hvl := hid_e (hval.out q2 w2 (hB.out.keepR hFw2) hA2 (by omega))
          replace hS2 := hid_e (hS2 nm q2 rfl)
          go_wp2_with fail
          go_fit hvl.out
          clear hvl
          rintro e3 w3 ⟨k2, x2, s2, an2, ln2, cn2, ai2, li2, ci2, rfl, hsn, hA3, hF3⟩
          cases hV : val q2 with
          | no e q3 =>
            rw [hV] at hA3
            have hRe : Hid (R = .no e q3) := by
              rw [Hid, ← hK.out, objR, hM]
              simp only
              rw [hnok.1]
              simp only
              rw [hnok.2, if_neg (by decide), hV]
            have he : (e == 0) = false := by simpa using hno.out q2 e q3 hV
            have b5 : (Rd.no e q3 : Rd Tr).code = e := rfl
            have hres3 := (hF3.block _ (Array.getElem?_eq_some_iff.1 hres2).1 (by omega)).trans hres2
            have hres4 := (Below.heap_alloc w3 (.cells #[.int .i64 k2, .int .i64 x2, .string s2, .slice an2 ln2 cn2, .slice ai2 li2 ci2] 25) _ (Array.getElem?_eq_some_iff.1 hres3).1).trans hres3
            have hA4 := hA3.keep (S := fun _ => False) ((Fr.refl _ w3).alloc (.cells #[.int .i64 k2, .int .i64 x2, .string s2, .slice an2 ln2 cn2, .slice ai2 li2 ci2] 25)) (fun e => e)
            have hF4 : Fr (· = r) w (w3.alloc (.cells #[.int .i64 k2, .int .i64 x2, .string s2, .slice an2 ln2 cn2, .slice ai2 li2 ci2] 25)) := (hFw2.trans hF3).alloc _
            obtain ⟨v0, v1, v2, v3, v4, vf⟩ := row_cells hres4
            have vf0 := vf 0; have vf1 := vf 1; have vf2 := vf 2; have vf3 := vf 3; have vf4 := vf 4
            clear vf
            go_wp2_with fail
            have hr5 := put5_cells hres4 (.int .i64 0) (.int .i64 0) (.string ⟨#[]⟩) (.slice none 0 0) (.slice none 0 0)
            have r0 := hr5 0; have r1 := hr5 1; have r2 := hr5 2; have r3 := hr5 3; have r4 := hr5 4
            clear hr5
            refine bodyPost_ret (v := .tuple #[.agg #[.int .i64 0, .int .i64 0, .string ⟨#[]⟩, .slice none 0 0, .slice none 0 0], .int .i64 e]) (by simp [results, Tryd.results28, go_sem, r0, r1, r2, r3, r4]) rfl ?_
            rw [hRe.out]
            exact ⟨_, _, _, _, _, _, _, _, _, rfl, (fun t q e => by cases e), (put5_far _ _ _ _ _ (by omega)).trans hA4, hF4.put5 (.inr (Nat.le_refl _)) _ _ _ _ _⟩
          | ok u q3 =>
            rw [hV] at hA3 hsn
            have b5 : (Rd.ok u q3 : Rd Tr).code = 0 := rfl
            obtain ⟨hq1, hq2⟩ := hle.out q2 u q3 hV
            have hK2 : Hid (objR val l g' q3 (ns ++ [nm]) (its ++ [u]) = R) := by
              rw [Hid, ← hK.out, objR, hM]
              simp only
              rw [hnok.1]
              simp only
              rw [hnok.2, if_neg (by decide), hV]
            have hsu := hsn u q3 rfl
            clear hsn
            have hM0 := hid_e (om_start hrl hO1 hF2 hS2.out hF3 hA3 hsu)
            have hM1 := hid_e ((OM.alloc hrl hM0.out (.cells #[.int .i64 k2, .int .i64 x2, .string s2, .slice an2 ln2 cn2, .slice ai2 li2 ci2] 25)).drew)
            have hib : (w3.alloc (.cells #[.int .i64 k2, .int .i64 x2, .string s2, .slice an2 ln2 cn2, .slice ai2 li2 ci2] 25)).drew.heap[w3.heap.size]? = some (.cells #[.int .i64 k2, .int .i64 x2, .string s2, .slice an2 ln2 cn2, .slice ai2 li2 ci2] 25 (0, 0)) := heap_alloc_new w3 _
            have hib' : Hid (w3.heap.size < (w3.alloc (.cells #[.int .i64 k2, .int .i64 x2, .string s2, .slice an2 ln2 cn2, .slice ai2 li2 ci2] 25)).drew.heap.size) := by
              rw [Hid]; show w3.heap.size < (w3.alloc (.cells #[.int .i64 k2, .int .i64 x2, .string s2, .slice an2 ln2 cn2, .slice ai2 li2 ci2] 25)).heap.size; rw [World.size_alloc]; omega
            have hlb : Hid (w.heap.size + 3 ≤ w3.heap.size) := hM0.out.size
            have hnn := hni.out
            replace hnn := hid_e hnn
            have hbn0 : Hid (∀ j, (Value.slice an ns.length cn).ownBlock = some j → j < w3.heap.size) := fun j e => (ownsRow_ge hM0.out.names e).2
            have hbi0 : Hid (∀ j, (Value.slice ao its.length ci).ownBlock = some j → j < w3.heap.size) := fun j e => (ownsRow_ge hM0.out.items e).2
            clear hO hO1 hF2 hS2 hF3 hA3 hsu hM0 hF1 hA1 hA2 hFw2 hres2 hV hM hNR hnok hval
            go_upto_region 12 with fail
            have hbx := hM1.out.lat.box
            generalize hX : (w3.alloc (.cells #[.int .i64 k2, .int .i64 x2, .string s2, .slice an2 ln2 cn2, .slice ai2 li2 ci2] 25)).drew = X at hM1 hib hib' hbx
            refine wp_region_noPanic ?_
            refine Until.wp_region_U (fun W => W.heap[w3.heap.size]? = some (.cells #[.int .i64 k2, .int .i64 x2, .string s2, .slice an2 ln2 cn2, .slice ai2 li2 ci2] 25 (0, 0))) (fun W => W.heap[w.heap.size + 1]? = some (.cells #[.int .i64 6, .int .i64 0, .string ⟨#[]⟩, .slice an ns.length cn, .slice ao its.length ci] 25 (0, 0))) 11 (by kernel_rfl) ?_
            rw [hX]
            clear hX
            obtain ⟨i0, hi, hz0, hz1, hz2⟩ := info_parts AV
            obtain ⟨i9, hi9, hy0, hy1, hy2⟩ := info_parts A9
            refine Until.wpU_pure (i := 0) (oi := { dst := some 44, op := Op.fieldAddr 25 (Operand.tmp 6) 3, type := 0, pos := "read.go:155", after := #[], guard := none }) (v := .pointer (some ⟨w.heap.size + 1, 3, none⟩)) rfl (by kernel_rfl) (by kernel_rfl) (by kernel_rfl) (by kernel_rfl) (by kernel_rfl) (fun _ _ _ h => h) (hib) (fun _ => hbx) (by rfl) (by intro w'; go_simp) ?_
            try simp only [Act.put, List.setIfInBounds_toArray, List.set_cons_zero, List.set_cons_succ]
            refine Until.wpU_load1 (i := 1) (oi := { dst := some 45, op := Op.load 22 (Operand.tmp 44), type := 22, pos := "read.go:155", after := #[{ on := 0, ground := Ground.data }], guard := none }) (v := .slice an ns.length cn) rfl (by kernel_rfl) (by kernel_rfl) (by kernel_rfl) (by kernel_rfl) (by kernel_rfl) (by kernel_rfl) (fun _ _ _ h => h) (hib) (hbx) (by rfl) (by intro w' hw'; obtain ⟨t0, t1, t2, t3, t4, -⟩ := row_cells hw'; go_simp) ?_
            try simp only [Act.put, List.setIfInBounds_toArray, List.set_cons_zero, List.set_cons_succ]
            refine Until.wpU_pure (i := 2) (oi := { dst := some 46, op := Op.move (Operand.tmp 10), type := 9, pos := "read.go:155", after := #[], guard := none }) (v := .string nm) rfl (by kernel_rfl) (by kernel_rfl) (by kernel_rfl) (by kernel_rfl) (by kernel_rfl) (fun _ _ _ h => h) (hib) (fun _ => hbx) (by rfl) (by intro w'; go_simp) ?_
            try simp only [Act.put, List.setIfInBounds_toArray, List.set_cons_zero, List.set_cons_succ]
            refine Until.wpU_pure (i := 5) (oi := { dst := some 49, op := Op.fieldAddr 25 (Operand.tmp 6) 4, type := 0, pos := "read.go:155", after := #[], guard := none }) (v := .pointer (some ⟨w.heap.size + 1, 4, none⟩)) rfl (by kernel_rfl) (by kernel_rfl) (by kernel_rfl) (by kernel_rfl) (by kernel_rfl) (fun _ _ _ h => h) (hib) (fun _ => hbx) (by rfl) (by intro w'; go_simp) ?_
            try simp only [Act.put, List.setIfInBounds_toArray, List.set_cons_zero, List.set_cons_succ]
            refine Until.wpU_load1 (i := 6) (oi := { dst := some 50, op := Op.load 23 (Operand.tmp 49), type := 23, pos := "read.go:155", after := #[{ on := 5, ground := Ground.data }], guard := none }) (v := .slice ao its.length ci) rfl (by kernel_rfl) (by kernel_rfl) (by kernel_rfl) (by kernel_rfl) (by kernel_rfl) (by kernel_rfl) (fun _ _ _ h => h) (hib) (hbx) (by rfl) (by intro w' hw'; obtain ⟨t0, t1, t2, t3, t4, -⟩ := row_cells hw'; go_simp) ?_
            try simp only [Act.put, List.setIfInBounds_toArray, List.set_cons_zero, List.set_cons_succ]
            refine Until.wpU_load0 (i := 7) (oi := { dst := some 51, op := Op.load 25 (Operand.tmp 11), type := 25, pos := "read.go:155", after := #[], guard := none }) (v := .agg #[.int .i64 k2, .int .i64 x2, .string s2, .slice an2 ln2 cn2, .slice ai2 li2 ci2]) rfl (by kernel_rfl) (by kernel_rfl) (by kernel_rfl) (by kernel_rfl) (by kernel_rfl) (fun _ _ _ h => h) (hib) (fun _ => hbx) (by rfl) (by intro w' hw'; obtain ⟨t0, t1, t2, t3, t4, -⟩ := row_cells hw'; go_simp) ?_
            try simp only [Act.put, List.setIfInBounds_toArray, List.set_cons_zero, List.set_cons_succ]
            have hbn : Hid (∀ j, (Value.slice an ns.length cn).ownBlock = some j → j < w3.heap.size) := hbn0
            have hbi : Hid (∀ j, (Value.slice ao its.length ci).ownBlock = some j → j < w3.heap.size) := hbi0
            refine Until.wpU_ready (rs := [3, 8]) (by kernel_rfl) (by simp) ?_
            refine (Until.AllU.cons (o := { dst := some 47, op := Op.buildSlice 22 1 #[(0, Operand.tmp 46)], type := 22, pos := "read.go:155", after := #[{ on := 2, ground := Ground.data }], guard := none }) rfl (fun K hK => ?_) (Until.AllU.cons (o := { dst := some 52, op := Op.buildSlice 23 1 #[(0, Operand.tmp 51)], type := 23, pos := "read.go:155", after := #[{ on := 7, ground := Ground.data }], guard := none }) rfl (fun K hK => ?_) Until.AllU.nil))
            · skip
              go_simp
              have M1 := hid_e (OM.alloc hrl hM1.out (.cells #[.string nm] 9))
              have ib1 := (Below.heap_alloc X (.cells #[.string nm] 9) _ (Array.getElem?_eq_some_iff.1 hib).1).trans hib
              have bx1 := (Below.heap_alloc X (.cells #[.string nm] 9) _ (Array.getElem?_eq_some_iff.1 hbx).1).trans hbx
              have nb1 := heap_alloc_new X (.cells #[.string nm] 9)
              have sz1 : X.heap.size ≤ (X.alloc (.cells #[.string nm] 9)).heap.size := by rw [World.size_alloc]; omega
              refine hK.out _ _ ib1 (fun _ => bx1) ?_
              clear hK K
              try simp only [Act.put, List.setIfInBounds_toArray, List.set_cons_zero, List.set_cons_succ]
              generalize X.alloc (.cells #[.string nm] 9) = Y1 at sz1 M1 ib1 bx1 nb1 ⊢
              replace nb1 := hid_e nb1
              refine Until.wpU_ready (rs := [4, 8]) (by kernel_rfl) (by simp) ?_
              refine (Until.AllU.cons (o := { dst := some 48, op := Op.call { callee := Callee.builtin Builtin.append, args := #[Operand.tmp 45, Operand.tmp 47], argTypes := #[22, 22] }, type := 22, pos := "read.go:155", after := #[{ on := 1, ground := Ground.data }, { on := 3, ground := Ground.data }], guard := none }) rfl (fun K hK => ?_) (Until.AllU.cons (o := { dst := some 52, op := Op.buildSlice 23 1 #[(0, Operand.tmp 51)], type := 23, pos := "read.go:155", after := #[{ on := 7, ground := Ground.data }], guard := none }) rfl (fun K hK => ?_) Until.AllU.nil))
              · skip
                refine step_append_lies _ (by rfl) _ _ 22 (by rfl) (w.heap.size + 3) 9 i9 _ 1 16 Tryd.underlying22 hi9 hy0 hy1 hy2 (by rfl) (by omega) _ ns.length (strs ns) (by rfl) M1.out.names _ 1 1 [.string nm] (by rfl) (by rfl) (World.news_of_block nb1.out) (str_one _) (by omega) (by unfold maxLen; have := hnn.out; omega) (by have := hnn.out; omega) M1.out.size _ rfl ?_
                intro gn cN Y2 how2 hgr2 hat2 hlt2
                have M2 := hid_e (OM.growN hrl M1.out hgr2 hat2 how2)
                have ne2 : ∀ j, (Value.slice an ns.length cn).ownBlock = some j → j < w3.heap.size := hbn.out
                have ib2 := (hgr2.block _ (Array.getElem?_eq_some_iff.1 ib1).1 (fun e => by have := ne2 _ e.symm; omega)).trans ib1
                have bx2 := (hgr2.block _ (Array.getElem?_eq_some_iff.1 bx1).1 (fun e => by have := ownsRow_ge M1.out.names e.symm; omega)).trans bx1
                clear how2 hgr2 hat2 hlt2 ne2
                refine hK.out _ _ ib2 (fun _ => bx2) ?_
                clear hK K
                try simp only [Act.put, List.setIfInBounds_toArray, List.set_cons_zero, List.set_cons_succ]
                refine Until.wpU_pure (i := 10) (oi := { dst := some 54, op := Op.fieldAddr 25 (Operand.tmp 6) 3, type := 0, pos := "read.go:155", after := #[{ on := 0, ground := Ground.phase }, { on := 1, ground := Ground.phase }, { on := 2, ground := Ground.phase }, { on := 3, ground := Ground.phase }, { on := 4, ground := Ground.phase }, { on := 5, ground := Ground.phase }, { on := 6, ground := Ground.phase }, { on := 7, ground := Ground.textOnly Departure.lateStores }, { on := 8, ground := Ground.textOnly Departure.lateStores }, { on := 9, ground := Ground.textOnly Departure.lateStoresUnsure }], guard := none }) (v := .pointer (some ⟨w.heap.size + 1, 3, none⟩)) rfl (by kernel_rfl) (by kernel_rfl) (by kernel_rfl) (by kernel_rfl) (by kernel_rfl) (fun _ _ _ h => h) (ib2) (fun _ => bx2) (by rfl) (by intro w'; go_simp) ?_
                try simp only [Act.put, List.setIfInBounds_toArray, List.set_cons_zero, List.set_cons_succ]
                refine Until.wpU_ready (rs := [8]) (by kernel_rfl) (by simp) ?_
                refine (Until.AllU.cons (o := { dst := some 52, op := Op.buildSlice 23 1 #[(0, Operand.tmp 51)], type := 23, pos := "read.go:155", after := #[{ on := 7, ground := Ground.data }], guard := none }) rfl (fun K hK => ?_) Until.AllU.nil)
                go_simp
                have M3 := hid_e (OM.alloc hrl M2.out (.cells #[.int .i64 k2, .int .i64 x2, .string s2, .slice an2 ln2 cn2, .slice ai2 li2 ci2] 25))
                have ib3 := (Below.heap_alloc Y2 (.cells #[.int .i64 k2, .int .i64 x2, .string s2, .slice an2 ln2 cn2, .slice ai2 li2 ci2] 25) _ (Array.getElem?_eq_some_iff.1 ib2).1).trans ib2
                have bx3 := (Below.heap_alloc Y2 (.cells #[.int .i64 k2, .int .i64 x2, .string s2, .slice an2 ln2 cn2, .slice ai2 li2 ci2] 25) _ (Array.getElem?_eq_some_iff.1 bx2).1).trans bx2
                have nb3 := heap_alloc_new Y2 (.cells #[.int .i64 k2, .int .i64 x2, .string s2, .slice an2 ln2 cn2, .slice ai2 li2 ci2] 25)
                have sz3 : Y2.heap.size ≤ (Y2.alloc (.cells #[.int .i64 k2, .int .i64 x2, .string s2, .slice an2 ln2 cn2, .slice ai2 li2 ci2] 25)).heap.size := by rw [World.size_alloc]; omega
                refine hK.out _ _ ib3 (fun _ => bx3) ?_
                clear hK K
                try simp only [Act.put, List.setIfInBounds_toArray, List.set_cons_zero, List.set_cons_succ]
                generalize Y2.alloc (.cells #[.int .i64 k2, .int .i64 x2, .string s2, .slice an2 ln2 cn2, .slice ai2 li2 ci2] 25) = Y3 at sz3 M3 ib3 bx3 nb3 ⊢
                replace nb3 := hid_e nb3
                refine Until.wpU_ready (rs := [9]) (by kernel_rfl) (by simp) ?_
                refine (Until.AllU.cons (o := { dst := some 53, op := Op.call { callee := Callee.builtin Builtin.append, args := #[Operand.tmp 50, Operand.tmp 52], argTypes := #[23, 23] }, type := 23, pos := "read.go:155", after := #[{ on := 6, ground := Ground.data }, { on := 8, ground := Ground.data }, { on := 4, ground := Ground.chain }], guard := none }) rfl (fun K hK => ?_) Until.AllU.nil)
                refine step_append_lies _ (by rfl) _ _ 23 (by rfl) (w.heap.size + 3) 25 i0 _ 5 80 Tryd.underlying23 hi hz0 hz1 hz2 (by rfl) (by omega) _ its.length xs (by rfl) M3.out.items _ 1 1 [.int .i64 k2, .int .i64 x2, .string s2, .slice an2 ln2 cn2, .slice ai2 li2 ci2] (by rfl) (by rfl) (World.news_of_block nb3.out) (five_one _ _ _ _ _ _ _ _ _) (by omega) (by unfold maxLen; omega) (by omega) M3.out.size _ rfl ?_
                intro gi cI Y4 how4 hgr4 hat4 hlt4
                have M4 := hid_e (OM.growI hrl M3.out hgr4 hat4 how4)
                have ne4 : ∀ j, (Value.slice ao its.length ci).ownBlock = some j → j < w3.heap.size := hbi.out
                have ib4 := (hgr4.block _ (Array.getElem?_eq_some_iff.1 ib3).1 (fun e => by have := ne4 _ e.symm; omega)).trans ib3
                have bx4 := (hgr4.block _ (Array.getElem?_eq_some_iff.1 bx3).1 (fun e => by have := ownsRow_ge M3.out.items e.symm; omega)).trans bx3
                clear how4 hgr4 hat4 hlt4 ne4
                refine hK.out _ _ ib4 (fun _ => bx4) ?_
                clear hK K
                try simp only [Act.put, List.setIfInBounds_toArray, List.set_cons_zero, List.set_cons_succ]
                have hfin := hid_e (om_fin hrl (five_cs _ _ _ _ _ _ _ _ _) M4.out)
                obtain ⟨-, -, -, z3, -, zf⟩ := row_cells bx4
                have zf3 := zf 3
                clear zf
                refine Until.wpU_ready (rs := [11]) (by kernel_rfl) (by simp) ?_
                refine (Until.AllU.cons (o := { dst := none, op := Op.store 22 (Operand.tmp 54) (Operand.tmp 48), type := 0, pos := "read.go:155", after := #[{ on := 10, ground := Ground.data }, { on := 4, ground := Ground.data }, { on := 9, ground := Ground.chain }, { on := 0, ground := Ground.phase }, { on := 1, ground := Ground.phase }, { on := 2, ground := Ground.phase }, { on := 3, ground := Ground.phase }, { on := 4, ground := Ground.phase }, { on := 5, ground := Ground.phase }, { on := 6, ground := Ground.phase }, { on := 7, ground := Ground.textOnly Departure.lateStores }, { on := 8, ground := Ground.textOnly Departure.lateStores }, { on := 9, ground := Ground.textOnly Departure.lateStoresUnsure }], guard := none }) rfl (fun K hK => ?_) Until.AllU.nil)
                go_simp
                have ic : (Y4.setCell ⟨w.heap.size + 1, 3, none⟩ (.slice (some ⟨gn, 0, none⟩) (ns.length + 1) cN)).heap[w3.heap.size]? = some (.cells #[.int .i64 k2, .int .i64 x2, .string s2, .slice an2 ln2 cn2, .slice ai2 li2 ci2] 25 (0, 0)) := (Below.heap_setCell _ _ _ _ (by have := hlb.out; show w3.heap.size ≠ w.heap.size + 1; omega)).trans ib4
                have bc : (Y4.setCell ⟨w.heap.size + 1, 3, none⟩ (.slice (some ⟨gn, 0, none⟩) (ns.length + 1) cN)).heap[w.heap.size + 1]? = some (.cells #[.int .i64 6, .int .i64 0, .string ⟨#[]⟩, .slice (some ⟨gn, 0, none⟩) (ns.length + 1) cN, .slice ao its.length ci] 25 (0, 0)) := by simp [World.setCell, Array.getElem?_modify, bx4]
                refine hK.out _ _ ic (fun h => absurd h (by decide)) ?_
                clear hK K z3 zf3
                try simp only [Act.put, List.setIfInBounds_toArray, List.set_cons_zero, List.set_cons_succ]
                generalize Y4.setCell ⟨w.heap.size + 1, 3, none⟩ (.slice (some ⟨gn, 0, none⟩) (ns.length + 1) cN) = Z at hfin ic bc ⊢
                refine Until.wpU_pure (i := 12) (oi := { dst := some 55, op := Op.fieldAddr 25 (Operand.tmp 6) 4, type := 0, pos := "read.go:155", after := #[{ on := 0, ground := Ground.phase }, { on := 1, ground := Ground.phase }, { on := 2, ground := Ground.phase }, { on := 3, ground := Ground.phase }, { on := 4, ground := Ground.phase }, { on := 5, ground := Ground.phase }, { on := 6, ground := Ground.phase }, { on := 7, ground := Ground.phase }, { on := 8, ground := Ground.phase }, { on := 9, ground := Ground.phase }, { on := 10, ground := Ground.phase }, { on := 11, ground := Ground.phase }], guard := none }) (v := .pointer (some ⟨w.heap.size + 1, 4, none⟩)) rfl (by kernel_rfl) (by kernel_rfl) (by kernel_rfl) (by kernel_rfl) (by kernel_rfl) (fun _ _ _ h => h) (ic) (fun h => absurd h (by decide)) (by rfl) (by intro w'; go_simp) ?_
                try simp only [Act.put, List.setIfInBounds_toArray, List.set_cons_zero, List.set_cons_succ]
                obtain ⟨-, -, -, -, z4, zf⟩ := row_cells bc
                have zf4 := zf 4
                clear zf
                refine Until.wpU_ready (rs := [13]) (by kernel_rfl) (by simp) ?_
                refine (Until.AllU.cons (o := { dst := none, op := Op.store 23 (Operand.tmp 55) (Operand.tmp 53), type := 0, pos := "read.go:155", after := #[{ on := 12, ground := Ground.data }, { on := 9, ground := Ground.data }, { on := 11, ground := Ground.chain }, { on := 0, ground := Ground.phase }, { on := 1, ground := Ground.phase }, { on := 2, ground := Ground.phase }, { on := 3, ground := Ground.phase }, { on := 4, ground := Ground.phase }, { on := 5, ground := Ground.phase }, { on := 6, ground := Ground.phase }, { on := 7, ground := Ground.phase }, { on := 8, ground := Ground.phase }, { on := 9, ground := Ground.phase }, { on := 10, ground := Ground.phase }, { on := 11, ground := Ground.phase }], guard := none }) rfl (fun K hK => ?_) Until.AllU.nil)
                go_simp
                have id := (Below.heap_setCell Z ⟨w.heap.size + 1, 4, none⟩ (.slice (some ⟨gi, 0, none⟩) (its.length + 1) cI) w3.heap.size (by have := hlb.out; show w3.heap.size ≠ w.heap.size + 1; omega)).trans ic
                refine hK.out _ _ id (fun h => absurd h (by decide)) ?_
                clear hK K z4 zf4 ic bc id
                try simp only [Act.put, List.setIfInBounds_toArray, List.set_cons_zero, List.set_cons_succ]
                refine Until.wpU_done (by kernel_rfl) ?_ _
                refine NoPanic.normal ?_
                go_wp2_with fail
                go_roundg g'
                case measure => omega
                case rel =>
                  refine ⟨q3, ns ++ [nm], its ++ [u], xs ++ (five k2 x2 s2 (.slice an2 ln2 cn2) (.slice ai2 li2 ci2)), some ⟨gn, 0, none⟩, cN, some ⟨gi, 0, none⟩, cI, hq2, by omega, ?_, ?_, hfin, hK2⟩
                  · simp only [List.length_append, List.length_cons, List.length_nil]; omega
                  · have := hnn.out; rw [Hid]; simp only [List.length_append, List.length_cons, List.length_nil]; omega
              · skip
                go_simp
                have M5 := hid_e (OM.alloc hrl M1.out (.cells #[.int .i64 k2, .int .i64 x2, .string s2, .slice an2 ln2 cn2, .slice ai2 li2 ci2] 25))
                have ib5 := (Below.heap_alloc Y1 (.cells #[.int .i64 k2, .int .i64 x2, .string s2, .slice an2 ln2 cn2, .slice ai2 li2 ci2] 25) _ (Array.getElem?_eq_some_iff.1 ib1).1).trans ib1
                have bx5 := (Below.heap_alloc Y1 (.cells #[.int .i64 k2, .int .i64 x2, .string s2, .slice an2 ln2 cn2, .slice ai2 li2 ci2] 25) _ (Array.getElem?_eq_some_iff.1 bx1).1).trans bx1
                have nb5 := heap_alloc_new Y1 (.cells #[.int .i64 k2, .int .i64 x2, .string s2, .slice an2 ln2 cn2, .slice ai2 li2 ci2] 25)
                have sz5 : Y1.heap.size ≤ (Y1.alloc (.cells #[.int .i64 k2, .int .i64 x2, .string s2, .slice an2 ln2 cn2, .slice ai2 li2 ci2] 25)).heap.size := by rw [World.size_alloc]; omega
                have kb5 := (Below.heap_alloc Y1 (.cells #[.int .i64 k2, .int .i64 x2, .string s2, .slice an2 ln2 cn2, .slice ai2 li2 ci2] 25) _ (Array.getElem?_eq_some_iff.1 nb1.out).1).trans nb1.out
                refine hK.out _ _ ib5 (fun _ => bx5) ?_
                clear hK K
                try simp only [Act.put, List.setIfInBounds_toArray, List.set_cons_zero, List.set_cons_succ]
                generalize Y1.alloc (.cells #[.int .i64 k2, .int .i64 x2, .string s2, .slice an2 ln2 cn2, .slice ai2 li2 ci2] 25) = Y5 at sz5 M5 ib5 bx5 nb5 kb5 ⊢
                replace nb5 := hid_e nb5
                refine Until.wpU_ready (rs := [4]) (by kernel_rfl) (by simp) ?_
                refine (Until.AllU.cons (o := { dst := some 48, op := Op.call { callee := Callee.builtin Builtin.append, args := #[Operand.tmp 45, Operand.tmp 47], argTypes := #[22, 22] }, type := 22, pos := "read.go:155", after := #[{ on := 1, ground := Ground.data }, { on := 3, ground := Ground.data }], guard := none }) rfl (fun K hK => ?_) Until.AllU.nil)
                refine step_append_lies _ (by rfl) _ _ 22 (by rfl) (w.heap.size + 3) 9 i9 _ 1 16 Tryd.underlying22 hi9 hy0 hy1 hy2 (by rfl) (by omega) _ ns.length (strs ns) (by rfl) M5.out.names _ 1 1 [.string nm] (by rfl) (by rfl) (World.news_of_block kb5) (str_one _) (by omega) (by unfold maxLen; have := hnn.out; omega) (by have := hnn.out; omega) M5.out.size _ rfl ?_
                intro gn cN Y6 how6 hgr6 hat6 hlt6
                have M6 := hid_e (OM.growN hrl M5.out hgr6 hat6 how6)
                have ne6 : ∀ j, (Value.slice an ns.length cn).ownBlock = some j → j < w3.heap.size := hbn.out
                have ib6 := (hgr6.block _ (Array.getElem?_eq_some_iff.1 ib5).1 (fun e => by have := ne6 _ e.symm; omega)).trans ib5
                have bx6 := (hgr6.block _ (Array.getElem?_eq_some_iff.1 bx5).1 (fun e => by have := ownsRow_ge M5.out.names e.symm; omega)).trans bx5
                have kb6 := hid_e ((hgr6.block _ (Array.getElem?_eq_some_iff.1 nb5.out).1 (fun e => by have := ne6 _ e.symm; have := hib'.out; omega)).trans nb5.out)
                clear how6 hgr6 hat6 hlt6 ne6
                refine hK.out _ _ ib6 (fun _ => bx6) ?_
                clear hK K
                try simp only [Act.put, List.setIfInBounds_toArray, List.set_cons_zero, List.set_cons_succ]
                refine Until.wpU_pure (i := 10) (oi := { dst := some 54, op := Op.fieldAddr 25 (Operand.tmp 6) 3, type := 0, pos := "read.go:155", after := #[{ on := 0, ground := Ground.phase }, { on := 1, ground := Ground.phase }, { on := 2, ground := Ground.phase }, { on := 3, ground := Ground.phase }, { on := 4, ground := Ground.phase }, { on := 5, ground := Ground.phase }, { on := 6, ground := Ground.phase }, { on := 7, ground := Ground.textOnly Departure.lateStores }, { on := 8, ground := Ground.textOnly Departure.lateStores }, { on := 9, ground := Ground.textOnly Departure.lateStoresUnsure }], guard := none }) (v := .pointer (some ⟨w.heap.size + 1, 3, none⟩)) rfl (by kernel_rfl) (by kernel_rfl) (by kernel_rfl) (by kernel_rfl) (by kernel_rfl) (fun _ _ _ h => h) (ib6) (fun _ => bx6) (by rfl) (by intro w'; go_simp) ?_
                try simp only [Act.put, List.setIfInBounds_toArray, List.set_cons_zero, List.set_cons_succ]
                refine Until.wpU_ready (rs := [9]) (by kernel_rfl) (by simp) ?_
                refine (Until.AllU.cons (o := { dst := some 53, op := Op.call { callee := Callee.builtin Builtin.append, args := #[Operand.tmp 50, Operand.tmp 52], argTypes := #[23, 23] }, type := 23, pos := "read.go:155", after := #[{ on := 6, ground := Ground.data }, { on := 8, ground := Ground.data }, { on := 4, ground := Ground.chain }], guard := none }) rfl (fun K hK => ?_) Until.AllU.nil)
                refine step_append_lies _ (by rfl) _ _ 23 (by rfl) (w.heap.size + 3) 25 i0 _ 5 80 Tryd.underlying23 hi hz0 hz1 hz2 (by rfl) (by omega) _ its.length xs (by rfl) M6.out.items _ 1 1 [.int .i64 k2, .int .i64 x2, .string s2, .slice an2 ln2 cn2, .slice ai2 li2 ci2] (by rfl) (by rfl) (World.news_of_block kb6.out) (five_one _ _ _ _ _ _ _ _ _) (by omega) (by unfold maxLen; omega) (by omega) M6.out.size _ rfl ?_
                intro gi cI Y7 how7 hgr7 hat7 hlt7
                have M7 := hid_e (OM.growI hrl M6.out hgr7 hat7 how7)
                have ne7 : ∀ j, (Value.slice ao its.length ci).ownBlock = some j → j < w3.heap.size := hbi.out
                have ib7 := (hgr7.block _ (Array.getElem?_eq_some_iff.1 ib6).1 (fun e => by have := ne7 _ e.symm; omega)).trans ib6
                have bx7 := (hgr7.block _ (Array.getElem?_eq_some_iff.1 bx6).1 (fun e => by have := ownsRow_ge M6.out.items e.symm; omega)).trans bx6
                clear how7 hgr7 hat7 hlt7 ne7
                refine hK.out _ _ ib7 (fun _ => bx7) ?_
                clear hK K
                try simp only [Act.put, List.setIfInBounds_toArray, List.set_cons_zero, List.set_cons_succ]
                have hfin := hid_e (om_fin hrl (five_cs _ _ _ _ _ _ _ _ _) M7.out)
                obtain ⟨-, -, -, z3, -, zf⟩ := row_cells bx7
                have zf3 := zf 3
                clear zf
                refine Until.wpU_ready (rs := [11]) (by kernel_rfl) (by simp) ?_
                refine (Until.AllU.cons (o := { dst := none, op := Op.store 22 (Operand.tmp 54) (Operand.tmp 48), type := 0, pos := "read.go:155", after := #[{ on := 10, ground := Ground.data }, { on := 4, ground := Ground.data }, { on := 9, ground := Ground.chain }, { on := 0, ground := Ground.phase }, { on := 1, ground := Ground.phase }, { on := 2, ground := Ground.phase }, { on := 3, ground := Ground.phase }, { on := 4, ground := Ground.phase }, { on := 5, ground := Ground.phase }, { on := 6, ground := Ground.phase }, { on := 7, ground := Ground.textOnly Departure.lateStores }, { on := 8, ground := Ground.textOnly Departure.lateStores }, { on := 9, ground := Ground.textOnly Departure.lateStoresUnsure }], guard := none }) rfl (fun K hK => ?_) Until.AllU.nil)
                go_simp
                have ic : (Y7.setCell ⟨w.heap.size + 1, 3, none⟩ (.slice (some ⟨gn, 0, none⟩) (ns.length + 1) cN)).heap[w3.heap.size]? = some (.cells #[.int .i64 k2, .int .i64 x2, .string s2, .slice an2 ln2 cn2, .slice ai2 li2 ci2] 25 (0, 0)) := (Below.heap_setCell _ _ _ _ (by have := hlb.out; show w3.heap.size ≠ w.heap.size + 1; omega)).trans ib7
                have bc : (Y7.setCell ⟨w.heap.size + 1, 3, none⟩ (.slice (some ⟨gn, 0, none⟩) (ns.length + 1) cN)).heap[w.heap.size + 1]? = some (.cells #[.int .i64 6, .int .i64 0, .string ⟨#[]⟩, .slice (some ⟨gn, 0, none⟩) (ns.length + 1) cN, .slice ao its.length ci] 25 (0, 0)) := by simp [World.setCell, Array.getElem?_modify, bx7]
                refine hK.out _ _ ic (fun h => absurd h (by decide)) ?_
                clear hK K z3 zf3
                try simp only [Act.put, List.setIfInBounds_toArray, List.set_cons_zero, List.set_cons_succ]
                generalize Y7.setCell ⟨w.heap.size + 1, 3, none⟩ (.slice (some ⟨gn, 0, none⟩) (ns.length + 1) cN) = Z at hfin ic bc ⊢
                refine Until.wpU_pure (i := 12) (oi := { dst := some 55, op := Op.fieldAddr 25 (Operand.tmp 6) 4, type := 0, pos := "read.go:155", after := #[{ on := 0, ground := Ground.phase }, { on := 1, ground := Ground.phase }, { on := 2, ground := Ground.phase }, { on := 3, ground := Ground.phase }, { on := 4, ground := Ground.phase }, { on := 5, ground := Ground.phase }, { on := 6, ground := Ground.phase }, { on := 7, ground := Ground.phase }, { on := 8, ground := Ground.phase }, { on := 9, ground := Ground.phase }, { on := 10, ground := Ground.phase }, { on := 11, ground := Ground.phase }], guard := none }) (v := .pointer (some ⟨w.heap.size + 1, 4, none⟩)) rfl (by kernel_rfl) (by kernel_rfl) (by kernel_rfl) (by kernel_rfl) (by kernel_rfl) (fun _ _ _ h => h) (ic) (fun h => absurd h (by decide)) (by rfl) (by intro w'; go_simp) ?_
                try simp only [Act.put, List.setIfInBounds_toArray, List.set_cons_zero, List.set_cons_succ]
                obtain ⟨-, -, -, -, z4, zf⟩ := row_cells bc
                have zf4 := zf 4
                clear zf
                refine Until.wpU_ready (rs := [13]) (by kernel_rfl) (by simp) ?_
                refine (Until.AllU.cons (o := { dst := none, op := Op.store 23 (Operand.tmp 55) (Operand.tmp 53), type := 0, pos := "read.go:155", after := #[{ on := 12, ground := Ground.data }, { on := 9, ground := Ground.data }, { on := 11, ground := Ground.chain }, { on := 0, ground := Ground.phase }, { on := 1, ground := Ground.phase }, { on := 2, ground := Ground.phase }, { on := 3, ground := Ground.phase }, { on := 4, ground := Ground.phase }, { on := 5, ground := Ground.phase }, { on := 6, ground := Ground.phase }, { on := 7, ground := Ground.phase }, { on := 8, ground := Ground.phase }, { on := 9, ground := Ground.phase }, { on := 10, ground := Ground.phase }, { on := 11, ground := Ground.phase }], guard := none }) rfl (fun K hK => ?_) Until.AllU.nil)
                go_simp
                have id := (Below.heap_setCell Z ⟨w.heap.size + 1, 4, none⟩ (.slice (some ⟨gi, 0, none⟩) (its.length + 1) cI) w3.heap.size (by have := hlb.out; show w3.heap.size ≠ w.heap.size + 1; omega)).trans ic
                refine hK.out _ _ id (fun h => absurd h (by decide)) ?_
                clear hK K z4 zf4 ic bc id
                try simp only [Act.put, List.setIfInBounds_toArray, List.set_cons_zero, List.set_cons_succ]
                refine Until.wpU_done (by kernel_rfl) ?_ _
                refine NoPanic.normal ?_
                go_wp2_with fail
                go_roundg g'
                case measure => omega
                case rel =>
                  refine ⟨q3, ns ++ [nm], its ++ [u], xs ++ (five k2 x2 s2 (.slice an2 ln2 cn2) (.slice ai2 li2 ci2)), some ⟨gn, 0, none⟩, cN, some ⟨gi, 0, none⟩, cI, hq2, by omega, ?_, ?_, hfin, hK2⟩
                  · simp only [List.length_append, List.length_cons, List.length_nil]; omega
                  · have := hnn.out; rw [Hid]; simp only [List.length_append, List.length_cons, List.length_nil]; omega
            · skip
              go_simp
              have M8 := hid_e (OM.alloc hrl hM1.out (.cells #[.int .i64 k2, .int .i64 x2, .string s2, .slice an2 ln2 cn2, .slice ai2 li2 ci2] 25))
              have ib8 := (Below.heap_alloc X (.cells #[.int .i64 k2, .int .i64 x2, .string s2, .slice an2 ln2 cn2, .slice ai2 li2 ci2] 25) _ (Array.getElem?_eq_some_iff.1 hib).1).trans hib
              have bx8 := (Below.heap_alloc X (.cells #[.int .i64 k2, .int .i64 x2, .string s2, .slice an2 ln2 cn2, .slice ai2 li2 ci2] 25) _ (Array.getElem?_eq_some_iff.1 hbx).1).trans hbx
              have nb8 := heap_alloc_new X (.cells #[.int .i64 k2, .int .i64 x2, .string s2, .slice an2 ln2 cn2, .slice ai2 li2 ci2] 25)
              have sz8 : X.heap.size ≤ (X.alloc (.cells #[.int .i64 k2, .int .i64 x2, .string s2, .slice an2 ln2 cn2, .slice ai2 li2 ci2] 25)).heap.size := by rw [World.size_alloc]; omega
              refine hK.out _ _ ib8 (fun _ => bx8) ?_
              clear hK K
              try simp only [Act.put, List.setIfInBounds_toArray, List.set_cons_zero, List.set_cons_succ]
              generalize X.alloc (.cells #[.int .i64 k2, .int .i64 x2, .string s2, .slice an2 ln2 cn2, .slice ai2 li2 ci2] 25) = Y8 at sz8 M8 ib8 bx8 nb8 ⊢
              replace nb8 := hid_e nb8
              refine Until.wpU_ready (rs := [3]) (by kernel_rfl) (by simp) ?_
              refine (Until.AllU.cons (o := { dst := some 47, op := Op.buildSlice 22 1 #[(0, Operand.tmp 46)], type := 22, pos := "read.go:155", after := #[{ on := 2, ground := Ground.data }], guard := none }) rfl (fun K hK => ?_) Until.AllU.nil)
              go_simp
              have M9 := hid_e (OM.alloc hrl M8.out (.cells #[.string nm] 9))
              have ib9 := (Below.heap_alloc Y8 (.cells #[.string nm] 9) _ (Array.getElem?_eq_some_iff.1 ib8).1).trans ib8
              have bx9 := (Below.heap_alloc Y8 (.cells #[.string nm] 9) _ (Array.getElem?_eq_some_iff.1 bx8).1).trans bx8
              have nb9 := heap_alloc_new Y8 (.cells #[.string nm] 9)
              have sz9 : Y8.heap.size ≤ (Y8.alloc (.cells #[.string nm] 9)).heap.size := by rw [World.size_alloc]; omega
              have kb9 := (Below.heap_alloc Y8 (.cells #[.string nm] 9) _ (Array.getElem?_eq_some_iff.1 nb8.out).1).trans nb8.out
              refine hK.out _ _ ib9 (fun _ => bx9) ?_
              clear hK K
              try simp only [Act.put, List.setIfInBounds_toArray, List.set_cons_zero, List.set_cons_succ]
              generalize Y8.alloc (.cells #[.string nm] 9) = Y9 at sz9 M9 ib9 bx9 nb9 kb9 ⊢
              replace nb9 := hid_e nb9
              refine Until.wpU_ready (rs := [4]) (by kernel_rfl) (by simp) ?_
              refine (Until.AllU.cons (o := { dst := some 48, op := Op.call { callee := Callee.builtin Builtin.append, args := #[Operand.tmp 45, Operand.tmp 47], argTypes := #[22, 22] }, type := 22, pos := "read.go:155", after := #[{ on := 1, ground := Ground.data }, { on := 3, ground := Ground.data }], guard := none }) rfl (fun K hK => ?_) Until.AllU.nil)
              refine step_append_lies _ (by rfl) _ _ 22 (by rfl) (w.heap.size + 3) 9 i9 _ 1 16 Tryd.underlying22 hi9 hy0 hy1 hy2 (by rfl) (by omega) _ ns.length (strs ns) (by rfl) M9.out.names _ 1 1 [.string nm] (by rfl) (by rfl) (World.news_of_block nb9.out) (str_one _) (by omega) (by unfold maxLen; have := hnn.out; omega) (by have := hnn.out; omega) M9.out.size _ rfl ?_
              intro gn cN Y10 how10 hgr10 hat10 hlt10
              have M10 := hid_e (OM.growN hrl M9.out hgr10 hat10 how10)
              have ne10 : ∀ j, (Value.slice an ns.length cn).ownBlock = some j → j < w3.heap.size := hbn.out
              have ib10 := (hgr10.block _ (Array.getElem?_eq_some_iff.1 ib9).1 (fun e => by have := ne10 _ e.symm; omega)).trans ib9
              have bx10 := (hgr10.block _ (Array.getElem?_eq_some_iff.1 bx9).1 (fun e => by have := ownsRow_ge M9.out.names e.symm; omega)).trans bx9
              have kb10 := hid_e ((hgr10.block _ (Array.getElem?_eq_some_iff.1 kb9).1 (fun e => by have := ne10 _ e.symm; have := hib'.out; omega)).trans kb9)
              clear how10 hgr10 hat10 hlt10 ne10
              refine hK.out _ _ ib10 (fun _ => bx10) ?_
              clear hK K
              try simp only [Act.put, List.setIfInBounds_toArray, List.set_cons_zero, List.set_cons_succ]
              refine Until.wpU_pure (i := 10) (oi := { dst := some 54, op := Op.fieldAddr 25 (Operand.tmp 6) 3, type := 0, pos := "read.go:155", after := #[{ on := 0, ground := Ground.phase }, { on := 1, ground := Ground.phase }, { on := 2, ground := Ground.phase }, { on := 3, ground := Ground.phase }, { on := 4, ground := Ground.phase }, { on := 5, ground := Ground.phase }, { on := 6, ground := Ground.phase }, { on := 7, ground := Ground.textOnly Departure.lateStores }, { on := 8, ground := Ground.textOnly Departure.lateStores }, { on := 9, ground := Ground.textOnly Departure.lateStoresUnsure }], guard := none }) (v := .pointer (some ⟨w.heap.size + 1, 3, none⟩)) rfl (by kernel_rfl) (by kernel_rfl) (by kernel_rfl) (by kernel_rfl) (by kernel_rfl) (fun _ _ _ h => h) (ib10) (fun _ => bx10) (by rfl) (by intro w'; go_simp) ?_
              try simp only [Act.put, List.setIfInBounds_toArray, List.set_cons_zero, List.set_cons_succ]
              refine Until.wpU_ready (rs := [9]) (by kernel_rfl) (by simp) ?_
              refine (Until.AllU.cons (o := { dst := some 53, op := Op.call { callee := Callee.builtin Builtin.append, args := #[Operand.tmp 50, Operand.tmp 52], argTypes := #[23, 23] }, type := 23, pos := "read.go:155", after := #[{ on := 6, ground := Ground.data }, { on := 8, ground := Ground.data }, { on := 4, ground := Ground.chain }], guard := none }) rfl (fun K hK => ?_) Until.AllU.nil)
              refine step_append_lies _ (by rfl) _ _ 23 (by rfl) (w.heap.size + 3) 25 i0 _ 5 80 Tryd.underlying23 hi hz0 hz1 hz2 (by rfl) (by omega) _ its.length xs (by rfl) M10.out.items _ 1 1 [.int .i64 k2, .int .i64 x2, .string s2, .slice an2 ln2 cn2, .slice ai2 li2 ci2] (by rfl) (by rfl) (World.news_of_block kb10.out) (five_one _ _ _ _ _ _ _ _ _) (by omega) (by unfold maxLen; omega) (by omega) M10.out.size _ rfl ?_
              intro gi cI Y11 how11 hgr11 hat11 hlt11
              have M11 := hid_e (OM.growI hrl M10.out hgr11 hat11 how11)
              have ne11 : ∀ j, (Value.slice ao its.length ci).ownBlock = some j → j < w3.heap.size := hbi.out
              have ib11 := (hgr11.block _ (Array.getElem?_eq_some_iff.1 ib10).1 (fun e => by have := ne11 _ e.symm; omega)).trans ib10
              have bx11 := (hgr11.block _ (Array.getElem?_eq_some_iff.1 bx10).1 (fun e => by have := ownsRow_ge M10.out.items e.symm; omega)).trans bx10
              clear how11 hgr11 hat11 hlt11 ne11
              refine hK.out _ _ ib11 (fun _ => bx11) ?_
              clear hK K
              try simp only [Act.put, List.setIfInBounds_toArray, List.set_cons_zero, List.set_cons_succ]
              have hfin := hid_e (om_fin hrl (five_cs _ _ _ _ _ _ _ _ _) M11.out)
              obtain ⟨-, -, -, z3, -, zf⟩ := row_cells bx11
              have zf3 := zf 3
              clear zf
              refine Until.wpU_ready (rs := [11]) (by kernel_rfl) (by simp) ?_
              refine (Until.AllU.cons (o := { dst := none, op := Op.store 22 (Operand.tmp 54) (Operand.tmp 48), type := 0, pos := "read.go:155", after := #[{ on := 10, ground := Ground.data }, { on := 4, ground := Ground.data }, { on := 9, ground := Ground.chain }, { on := 0, ground := Ground.phase }, { on := 1, ground := Ground.phase }, { on := 2, ground := Ground.phase }, { on := 3, ground := Ground.phase }, { on := 4, ground := Ground.phase }, { on := 5, ground := Ground.phase }, { on := 6, ground := Ground.phase }, { on := 7, ground := Ground.textOnly Departure.lateStores }, { on := 8, ground := Ground.textOnly Departure.lateStores }, { on := 9, ground := Ground.textOnly Departure.lateStoresUnsure }], guard := none }) rfl (fun K hK => ?_) Until.AllU.nil)
              go_simp
              have ic : (Y11.setCell ⟨w.heap.size + 1, 3, none⟩ (.slice (some ⟨gn, 0, none⟩) (ns.length + 1) cN)).heap[w3.heap.size]? = some (.cells #[.int .i64 k2, .int .i64 x2, .string s2, .slice an2 ln2 cn2, .slice ai2 li2 ci2] 25 (0, 0)) := (Below.heap_setCell _ _ _ _ (by have := hlb.out; show w3.heap.size ≠ w.heap.size + 1; omega)).trans ib11
              have bc : (Y11.setCell ⟨w.heap.size + 1, 3, none⟩ (.slice (some ⟨gn, 0, none⟩) (ns.length + 1) cN)).heap[w.heap.size + 1]? = some (.cells #[.int .i64 6, .int .i64 0, .string ⟨#[]⟩, .slice (some ⟨gn, 0, none⟩) (ns.length + 1) cN, .slice ao its.length ci] 25 (0, 0)) := by simp [World.setCell, Array.getElem?_modify, bx11]
              refine hK.out _ _ ic (fun h => absurd h (by decide)) ?_
              clear hK K z3 zf3
              try simp only [Act.put, List.setIfInBounds_toArray, List.set_cons_zero, List.set_cons_succ]
              generalize Y11.setCell ⟨w.heap.size + 1, 3, none⟩ (.slice (some ⟨gn, 0, none⟩) (ns.length + 1) cN) = Z at hfin ic bc ⊢
              refine Until.wpU_pure (i := 12) (oi := { dst := some 55, op := Op.fieldAddr 25 (Operand.tmp 6) 4, type := 0, pos := "read.go:155", after := #[{ on := 0, ground := Ground.phase }, { on := 1, ground := Ground.phase }, { on := 2, ground := Ground.phase }, { on := 3, ground := Ground.phase }, { on := 4, ground := Ground.phase }, { on := 5, ground := Ground.phase }, { on := 6, ground := Ground.phase }, { on := 7, ground := Ground.phase }, { on := 8, ground := Ground.phase }, { on := 9, ground := Ground.phase }, { on := 10, ground := Ground.phase }, { on := 11, ground := Ground.phase }], guard := none }) (v := .pointer (some ⟨w.heap.size + 1, 4, none⟩)) rfl (by kernel_rfl) (by kernel_rfl) (by kernel_rfl) (by kernel_rfl) (by kernel_rfl) (fun _ _ _ h => h) (ic) (fun h => absurd h (by decide)) (by rfl) (by intro w'; go_simp) ?_
              try simp only [Act.put, List.setIfInBounds_toArray, List.set_cons_zero, List.set_cons_succ]
              obtain ⟨-, -, -, -, z4, zf⟩ := row_cells bc
              have zf4 := zf 4
              clear zf
              refine Until.wpU_ready (rs := [13]) (by kernel_rfl) (by simp) ?_
              refine (Until.AllU.cons (o := { dst := none, op := Op.store 23 (Operand.tmp 55) (Operand.tmp 53), type := 0, pos := "read.go:155", after := #[{ on := 12, ground := Ground.data }, { on := 9, ground := Ground.data }, { on := 11, ground := Ground.chain }, { on := 0, ground := Ground.phase }, { on := 1, ground := Ground.phase }, { on := 2, ground := Ground.phase }, { on := 3, ground := Ground.phase }, { on := 4, ground := Ground.phase }, { on := 5, ground := Ground.phase }, { on := 6, ground := Ground.phase }, { on := 7, ground := Ground.phase }, { on := 8, ground := Ground.phase }, { on := 9, ground := Ground.phase }, { on := 10, ground := Ground.phase }, { on := 11, ground := Ground.phase }], guard := none }) rfl (fun K hK => ?_) Until.AllU.nil)
              go_simp
              have id := (Below.heap_setCell Z ⟨w.heap.size + 1, 4, none⟩ (.slice (some ⟨gi, 0, none⟩) (its.length + 1) cI) w3.heap.size (by have := hlb.out; show w3.heap.size ≠ w.heap.size + 1; omega)).trans ic
              refine hK.out _ _ id (fun h => absurd h (by decide)) ?_
              clear hK K z4 zf4 ic bc id
              try simp only [Act.put, List.setIfInBounds_toArray, List.set_cons_zero, List.set_cons_succ]
              refine Until.wpU_done (by kernel_rfl) ?_ _
              refine NoPanic.normal ?_
              go_wp2_with fail
              go_roundg g'
              case measure => omega
              case rel =>
                refine ⟨q3, ns ++ [nm], its ++ [u], xs ++ (five k2 x2 s2 (.slice an2 ln2 cn2) (.slice ai2 li2 ci2)), some ⟨gn, 0, none⟩, cN, some ⟨gi, 0, none⟩, cI, hq2, by omega, ?_, ?_, hfin, hK2⟩
                · simp only [List.length_append, List.length_cons, List.length_nil]; omega
                · have := hnn.out; rw [Hid]; simp only [List.length_append, List.length_cons, List.length_nil]; omega
end Go.Proofs.YtjmneiepcbpdpaaDoor
