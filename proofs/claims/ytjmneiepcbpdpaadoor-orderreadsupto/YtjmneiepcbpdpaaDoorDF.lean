import Derived.Test.YtjmneiepcbpdpaaDoorDD
import Derived.Test.YtjmneiepcbpdpaaDoorBR
import Derived.Test.YtjmneiepcbpdpaaDoorBT
/-! The document's reader of lists and objects: the walks. -/
namespace Go.Proofs.YtjmneiepcbpdpaaDoor
open Go Go.RowKit

def RValOk (val : Nat → Rd Tr) (r : Nat) (a : Option Addr) (c : Nat) (l : List UInt8) (d : Int) : Prop := ∀ q w, RBase w r a c l → RT w r a c l.length q 0 0 → q ≤ l.length → Calls Tryd.prog 18 #[.pointer (some ⟨r, 0, none⟩), .int .i64 d] w (RValPost w r a c l (val q))
theorem next_more {l : List UInt8} {q : Nat} {b : UInt8} (h : l[q]? = some b) : moreR l q = if b = 2 then .ok true (q + 1) else if b = 1 then .ok false (q + 1) else .no 30 q := by unfold moreR; rw [h]
theorem none_more {l : List UInt8} {q : Nat} (h : l[q]? = none) : moreR l q = .no 3 l.length := by unfold moreR; rw [h]
theorem name_at {W : World} {lo : Nat} {an : Option Addr} {ns : List ByteArray} {cn : Nat} (h : W.ownsRow lo 9 1 (.slice an ns.length cn) ns.length (strs ns)) {i : Nat} (hi : i < ns.length) : ∃ g, an = some ⟨g, 0, none⟩ ∧ W.cell? ⟨g, i, none⟩ = some (.string ns[i]) := by
  rcases h.2 with ⟨hv, h0⟩ | ⟨gi, ci', cur, hv, hg, hh, hc, hm, rr⟩
  · omega
  · cases hv
    exact ⟨gi, rfl, row_cell h i _ (by unfold strs; rw [List.getElem?_map, List.getElem?_eq_getElem hi]; rfl)⟩
theorem has_at {ns : List ByteArray} {s : ByteArray} {i : Nat} (hi : i < ns.length) (h : ns[i] = s) : hasName ns s = true := by
  unfold hasName
  rw [List.any_eq_true]
  exact ⟨ns[i], List.getElem_mem hi, by rw [h]; simp⟩
theorem has_no {ns : List ByteArray} {s : ByteArray} (h : ∀ j (hj : j < ns.length), ns[j] ≠ s) : hasName ns s = false := by
  rw [Bool.eq_false_iff]
  intro e
  unfold hasName at e
  rw [List.any_eq_true] at e
  obtain ⟨x, hx, e⟩ := e
  obtain ⟨j, hj, rfl⟩ := List.getElem_of_mem hx
  exact h j hj (ByteArray.ext (by simpa using e))
set_option maxHeartbeats 8000000 in
set_option maxRecDepth 100000 in
theorem dlist_code (r : Nat) (a : Option Addr) (c p d : Nat) (l : List UInt8) (val : Nat → Rd Tr) (w : World) (hB : Hid (RBase w r a c l)) (h : Hid (RT w r a c l.length p 0 0)) (hp : p ≤ l.length) (hd : d ≤ 63) (hval : Hid (RValOk val r a c l ((d : Int) + 1)))
    (hle : Hid (∀ q t q', val q = .ok t q' → q < q' ∧ q' ≤ l.length)) :
    Calls Tryd.prog 40 #[.pointer (some ⟨r, 0, none⟩), .bool false, .int .i64 (d : Int)] w (RValPost w r a c l (listR val l (l.length + 1) p [])) := by
  have hlen := hB.out.len
  have hrl := hB.out.lt
  obtain ⟨R, hR⟩ : ∃ R, Hid (listR val l (l.length + 1) p [] = R) := ⟨_, hid_e rfl⟩
  rw [hR.out]
  obtain ⟨i0, hi, hz0, hz1, hz2⟩ := info_parts AV
  have hX0 : Fr (· = r) w ((w.alloc (.cells #[.int .i64 0, .int .i64 0, .string ⟨#[]⟩, .slice none 0 0, .slice none 0 0] 25)).alloc (.cells #[.int .i64 5, .int .i64 0, .string ⟨#[]⟩, .slice none 0 0, .slice none 0 0] 25)) := ((Fr.refl _ w).alloc _).alloc _
  have x1 := new1 w (.cells #[.int .i64 0, .int .i64 0, .string ⟨#[]⟩, .slice none 0 0, .slice none 0 0] 25) (.cells #[.int .i64 5, .int .i64 0, .string ⟨#[]⟩, .slice none 0 0, .slice none 0 0] 25)
  have x2 := new2 w (.cells #[.int .i64 0, .int .i64 0, .string ⟨#[]⟩, .slice none 0 0, .slice none 0 0] 25) (.cells #[.int .i64 5, .int .i64 0, .string ⟨#[]⟩, .slice none 0 0, .slice none 0 0] 25)
  have hR0 := RT.keep (S := fun _ => False) h.out (((Fr.refl _ w).alloc (.cells #[.int .i64 0, .int .i64 0, .string ⟨#[]⟩, .slice none 0 0, .slice none 0 0] 25)).alloc (.cells #[.int .i64 5, .int .i64 0, .string ⟨#[]⟩, .slice none 0 0, .slice none 0 0] 25)) (fun e => e)
  go_enter Tryd.func40, Tryd.ntmps40
  go_upto_region 2 with fail
  generalize ((w.alloc (.cells #[.int .i64 0, .int .i64 0, .string ⟨#[]⟩, .slice none 0 0, .slice none 0 0] 25)).alloc (.cells #[.int .i64 5, .int .i64 0, .string ⟨#[]⟩, .slice none 0 0, .slice none 0 0] 25)) = X0 at hX0 x1 x2 hR0 ⊢
  have hX1 := hX0
  have y1 := x1
  have y2 := x2
  have hR1 := hR0
  clear hX0 x1 x2 hR0
  go_wp2_with fail
  generalize X0 = X1 at hX1 y1 y2 hR1 ⊢
  have hM0 : QM w r 5 (.slice none 0 0) (.slice none 0 0) (.slice none 0 0) (.slice none 0 0) 0 (strs []) 0 [] [] [] X1 := ⟨hrl, hX1, y1, y2, World.ownsRow_nil _ _ _ _, World.ownsRow_nil _ _ _ _, (fun j e => by cases e), (fun W' _ => by unfold ItemsRep; rfl)⟩
  clear hX1 y1 y2
  go_loopg [] (l.length + 1) (fun gk wr => ∃ (ns : List ByteArray) (m : Nat) (xI : List Value) (an : Option Addr) (cn : Nat) (ao : Option Addr) (ci : Nat), Hid (QM w r 5 (.slice an ns.length cn) (.slice ao m ci) (.slice an ns.length cn) (.slice ao m ci) ns.length (strs ns) m xI [] [] wr) ∧ ((∃ (q : Nat) (its : List Tr), q ≤ l.length ∧ l.length - q < gk ∧ its.length = m ∧ m ≤ q ∧ (Hid (ns = [])) ∧ Hid (RT wr r a c l.length q 0 0) ∧ Hid (QM w r 5 (.slice an ns.length cn) (.slice ao m ci) (.slice an ns.length cn) (.slice ao m ci) ns.length (strs ns) m xI its xI wr) ∧ Hid (listR val l gk q its = R)) ∨ (∃ (q : Nat) (e : Int) (pl : Nat), e ≠ 0 ∧ Hid (R = .no e pl) ∧ Hid (RT wr r a c l.length q e pl))))
  case atStart => exact ⟨[], 0, [], none, 0, none, 0, hid_e hM0.blind, .inl ⟨p, [], hp, by omega, rfl, Nat.zero_le _, hid_e rfl, hid_e hR1, hid_e hM0, hR⟩⟩
  case round =>
    clear hM0 hR1 hR h
    obtain ⟨ns, m, xI, an, cn, ao, ci, hQ, hst⟩ := hrel
    rcases hst with ⟨q, its, hq, hgk, him, hmq, hnm, hA, hM, hK⟩ | ⟨q, e, pl, he, hRe, hA⟩
    rotate_left
    · have hn := hid_e (next_dead r a c l.length q pl e wr hA.out he)
      go_wp2_with fail
      go_fit hn.out
      clear hn
      rintro e1 w1 ⟨rfl, hw⟩
      replace hw := hw.symm
      subst hw
      obtain ⟨z0, z1, z2, z3, z4, -⟩ := row_cells hQ.out.box
      obtain ⟨v0, v1, v2, v3, v4, vf⟩ := row_cells hQ.out.res
      have vf0 := vf 0; have vf1 := vf 1; have vf2 := vf 2; have vf3 := vf 3; have vf4 := vf 4
      clear vf
      go_wp2_with fail
      have hr5 := put5_cells hQ.out.res (.int .i64 5) (.int .i64 0) (.string ⟨#[]⟩) (.slice an ns.length cn) (.slice ao m ci)
      have r0 := hr5 0; have r1 := hr5 1; have r2 := hr5 2; have r3 := hr5 3; have r4 := hr5 4
      clear hr5
      refine bodyPost_ret (v := .agg #[.int .i64 5, .int .i64 0, .string ⟨#[]⟩, .slice an ns.length cn, .slice ao m ci]) (by simp [results, Tryd.results40, go_sem, r0, r1, r2, r3, r4]) rfl ?_
      rw [hRe.out]
      exact ⟨_, _, _, _, _, _, _, _, _, rfl, (fun t q e => by cases e), RSt.put5 (R := (.no e pl : Rd Tr)) ⟨he, q, hA.out⟩ (by omega) _ _ _ _ _, hQ.out.fr.put5 (.inr (Nat.le_refl _)) _ _ _ _ _⟩
    clear hQ
    obtain ⟨g', rfl⟩ : ∃ g', gk = g' + 1 := ⟨gk - 1, by omega⟩
    have hn := hid_e (next_code r a c q l wr (hB.out.keepR hM.out.fr) hA.out hq)
    go_wp2_with fail
    go_fit hn.out
    clear hn
    rintro e1 w1 ⟨rfl, hS, hF1⟩
    have hM1 := hid_e (hM.out.next hF1)
    clear hM hA hF1
    cases hN : nextR l q with
    | no e1 q1 =>
      rw [hN] at hS
      obtain ⟨m1, rfl, rfl⟩ := next_none hN
      have hRe : Hid (R = .no 3 l.length) := by rw [Hid, ← hK.out, listR, none_more m1]
      have b1 : (Rd.no 3 l.length : Rd UInt8).good = false := rfl
      rw [b1]
      clear b1 hN
      obtain ⟨z0, z1, z2, z3, z4, -⟩ := row_cells hM1.out.box
      obtain ⟨v0, v1, v2, v3, v4, vf⟩ := row_cells hM1.out.res
      have vf0 := vf 0; have vf1 := vf 1; have vf2 := vf 2; have vf3 := vf 3; have vf4 := vf 4
      clear vf
      go_wp2_with fail
      have hr5 := put5_cells hM1.out.res (.int .i64 5) (.int .i64 0) (.string ⟨#[]⟩) (.slice an ns.length cn) (.slice ao m ci)
      have r0 := hr5 0; have r1 := hr5 1; have r2 := hr5 2; have r3 := hr5 3; have r4 := hr5 4
      clear hr5
      refine bodyPost_ret (v := .agg #[.int .i64 5, .int .i64 0, .string ⟨#[]⟩, .slice an ns.length cn, .slice ao m ci]) (by simp [results, Tryd.results40, go_sem, r0, r1, r2, r3, r4]) rfl ?_
      rw [hRe.out]
      exact ⟨_, _, _, _, _, _, _, _, _, rfl, (fun t q e => by cases e), RSt.put5 (R := (.no 3 l.length : Rd Tr)) hS (by omega) _ _ _ _ _, hM1.out.fr.put5 (.inr (Nat.le_refl _)) _ _ _ _ _⟩
    | ok b q1 =>
      rw [hN] at hS
      obtain ⟨m1, rfl, m3⟩ := next_some hN
      have b1 : (Rd.ok b (q + 1) : Rd UInt8).good = true := rfl
      have b2 : (Rd.ok b (q + 1) : Rd UInt8).val 0 = b := rfl
      rw [b1, b2]
      clear b1 b2 hN
      have hmr := hid_e (next_more m1)
      replace hS : Hid (RT w1 r a c l.length (q + 1) 0 0) := hS
      clear m1
      by_cases hb : b = 1
      · subst hb
        have hRe : Hid (R = .ok (.node 5 0 noS [] its) (q + 1)) := by rw [Hid, ← hK.out, listR, hmr.out]; rfl
        have z0 : (((1 : UInt8).toNat : Nat) : Int) = 1 := rfl
        rw [z0]
        clear z0
        subst him
        obtain rfl := hnm.out
        have hE := fun c0 c1 c2 c3 c4 => hid_e (qm_end hM1.out c0 c1 c2 c3 c4)
        replace hM1 : Hid (QM w r 5 (.slice an 0 cn) (.slice ao its.length ci) (.slice an 0 cn) (.slice ao its.length ci) 0 (strs []) its.length xI its xI w1) := hM1
        obtain ⟨z0, z1, z2, z3, z4, -⟩ := row_cells hM1.out.box
        obtain ⟨v0, v1, v2, v3, v4, vf⟩ := row_cells hM1.out.res
        have vf0 := vf 0; have vf1 := vf 1; have vf2 := vf 2; have vf3 := vf 3; have vf4 := vf 4
        clear vf
        go_wp2_with fail
        have hr5 := put5_cells hM1.out.res (.int .i64 5) (.int .i64 0) (.string ⟨#[]⟩) (.slice an 0 cn) (.slice ao its.length ci)
        have r0 := hr5 0; have r1 := hr5 1; have r2 := hr5 2; have r3 := hr5 3; have r4 := hr5 4
        clear hr5
        refine bodyPost_ret (v := .agg #[.int .i64 5, .int .i64 0, .string ⟨#[]⟩, .slice an 0 cn, .slice ao its.length ci]) (by simp [results, Tryd.results40, go_sem, r0, r1, r2, r3, r4]) rfl ?_
        rw [hRe.out]
        exact ⟨_, _, _, _, _, _, _, _, _, rfl, (fun t q e => by cases e; exact (hE _ _ _ _ _).out), RSt.put5 (R := (.ok (.node 5 0 noS [] its) (q + 1) : Rd Tr)) hS.out (by omega) _ _ _ _ _, hM1.out.fr.put5 (.inr (Nat.le_refl _)) _ _ _ _ _⟩
      by_cases hb2 : b = 2
      rotate_left
      · have hRe : Hid (R = .no 30 q) := by rw [Hid, ← hK.out, listR, hmr.out, if_neg hb2, if_neg hb]
        have k1 := byte_ne hb
        have k2 := byte_ne hb2
        obtain ⟨z, hz⟩ : ∃ z, (b.toNat : Int) = z := ⟨_, rfl⟩
        rw [hz]
        have j1 : (z == 1) = false := by rw [← hz]; exact k1
        have j2 : (z != 2) = true := by rw [← hz]; simpa using k2
        clear hz k1 k2
        have hfl := hid_e (fail_code r a c l.length (q + 1) q 30 w1 hS.out)
        obtain ⟨-, y1, -, -, -⟩ := hS.out.cells
        rw [show ((q + 1 : Nat) : Int) = (q : Int) + 1 by omega] at y1
        have hq9 : (q : Int) ≤ 9223372036854775806 := by omega
        go_wp2_with fail
        go_fit hfl.out
        clear y1 hfl
        rintro e w2 ⟨rfl, hS2, hF2⟩
        have hM2 := hid_e (hM1.out.next hF2)
        obtain ⟨z0, z1, z2, z3, z4, -⟩ := row_cells hM2.out.box
        obtain ⟨v0, v1, v2, v3, v4, vf⟩ := row_cells hM2.out.res
        have vf0 := vf 0; have vf1 := vf 1; have vf2 := vf 2; have vf3 := vf 3; have vf4 := vf 4
        clear vf
        go_wp2_with fail
        have hr5 := put5_cells hM2.out.res (.int .i64 5) (.int .i64 0) (.string ⟨#[]⟩) (.slice an ns.length cn) (.slice ao m ci)
        have r0 := hr5 0; have r1 := hr5 1; have r2 := hr5 2; have r3 := hr5 3; have r4 := hr5 4
        clear hr5
        refine bodyPost_ret (v := .agg #[.int .i64 5, .int .i64 0, .string ⟨#[]⟩, .slice an ns.length cn, .slice ao m ci]) (by simp [results, Tryd.results40, go_sem, r0, r1, r2, r3, r4]) rfl ?_
        rw [hRe.out]
        exact ⟨_, _, _, _, _, _, _, _, _, rfl, (fun t q e => by cases e), RSt.put5 (R := (.no 30 q : Rd Tr)) ⟨by decide, _, hS2⟩ (by omega) _ _ _ _ _, hM2.out.fr.put5 (.inr (Nat.le_refl _)) _ _ _ _ _⟩
      subst hb2
      have z0 : (((2 : UInt8).toNat : Nat) : Int) = 2 := rfl
      rw [z0]
      clear z0 hb
      have hd1 : (d : Int) ≤ 100 := by omega
      have hwd : IntKind.i64.wrap ((d : Int) + 1) = (d : Int) + 1 := by have := Lib.wrap_i64_small (d + 1) (by omega); rw [show (((d + 1 : Nat) : Int)) = (d : Int) + 1 by omega] at this; exact this
      have hq2 : q + 1 ≤ l.length := m3
      have hKv : Hid ((match val (q + 1) with | .no e q' => (.no e q' : Rd Tr) | .ok t q' => listR val l g' q' (its ++ [t])) = R) := by rw [Hid, ← hK.out, listR, hmr.out]; rfl
      clear hK hmr
      obtain ⟨q2, hq2e⟩ : ∃ z, q + 1 = z := ⟨_, rfl⟩
      rw [hq2e] at hKv hq2 hS
      have hqq : q < q2 := by omega
      replace hq2e := hid_e hq2e
      go_upto_region 19 with fail
      replace hM1 := hid_e hM1.out.drew
      have hbx := hM1.out.box
      have hRX := hid_e (RT.keep (S := fun _ => False) hS.out ((Fr.refl _ w1).drew) (fun e => e))
      have hcall := hid_e (hval.out q2 w1.drew (hB.out.keepR hM1.out.fr) hRX.out hq2)
      generalize hX : w1.drew = X at hM1 hbx hRX hcall
      refine wp_region_noPanic ?_
      refine Until.wp_region_U (fun _ => True) (fun W => W.heap[w.heap.size + 1]? = some (.cells #[.int .i64 5, .int .i64 0, .string ⟨#[]⟩, .slice an ns.length cn, .slice ao m ci] 25 (0, 0))) 9 (by kernel_rfl) ?_
      rw [hX]
      clear hX
      refine Until.wpU_pure (i := 0) (oi := { dst := some 75, op := Op.fieldAddr 25 (Operand.tmp 7) 4, type := 0, pos := "ref.go:285", after := #[], guard := none }) (v := .pointer (some ⟨w.heap.size + 1, 4, none⟩)) rfl (by kernel_rfl) (by kernel_rfl) (by kernel_rfl) (by kernel_rfl) (by kernel_rfl) (fun _ _ _ h => h) (trivial) (fun _ => hbx) (by rfl) (by intro w'; go_simp) ?_
      try simp only [Act.put, List.setIfInBounds_toArray, List.set_cons_zero, List.set_cons_succ]
      refine Until.wpU_load1 (i := 1) (oi := { dst := some 76, op := Op.load 23 (Operand.tmp 75), type := 23, pos := "ref.go:285", after := #[{ on := 0, ground := Ground.data }], guard := none }) (v := .slice ao m ci) rfl (by kernel_rfl) (by kernel_rfl) (by kernel_rfl) (by kernel_rfl) (by kernel_rfl) (by kernel_rfl) (fun _ _ _ h => h) (trivial) (hbx) (by rfl) (by intro w' hw'; obtain ⟨t0, t1, t2, t3, t4, -⟩ := row_cells hw'; go_simp) ?_
      try simp only [Act.put, List.setIfInBounds_toArray, List.set_cons_zero, List.set_cons_succ]
      refine Until.wpU_pure (i := 2) (oi := { dst := some 77, op := Op.move (Operand.tmp 0), type := 49, pos := "ref.go:285", after := #[], guard := none }) (v := .pointer (some ⟨r, 0, none⟩)) rfl (by kernel_rfl) (by kernel_rfl) (by kernel_rfl) (by kernel_rfl) (by kernel_rfl) (fun _ _ _ h => h) (trivial) (fun _ => hbx) (by rfl) (by intro w'; go_simp) ?_
      try simp only [Act.put, List.setIfInBounds_toArray, List.set_cons_zero, List.set_cons_succ]
      refine Until.wpU_pure (i := 3) (oi := { dst := some 78, op := Op.move (Operand.tmp 2), type := 3, pos := "ref.go:285", after := #[], guard := none }) (v := .int .i64 (d : Int)) rfl (by kernel_rfl) (by kernel_rfl) (by kernel_rfl) (by kernel_rfl) (by kernel_rfl) (fun _ _ _ h => h) (trivial) (fun _ => hbx) (by rfl) (by intro w'; go_simp) ?_
      try simp only [Act.put, List.setIfInBounds_toArray, List.set_cons_zero, List.set_cons_succ]
      refine Until.wpU_pure (i := 4) (oi := { dst := some 79, op := Op.binOp BinOp.add 3 (Operand.tmp 78) (Operand.const (Value.int IntKind.i64 1)) 3, type := 3, pos := "ref.go:285", after := #[{ on := 3, ground := Ground.data }], guard := none }) (v := .int .i64 ((d : Int) + 1)) rfl (by kernel_rfl) (by kernel_rfl) (by kernel_rfl) (by kernel_rfl) (by kernel_rfl) (fun _ _ _ h => h) (trivial) (fun _ => hbx) (by rfl) (by intro w'; go_simp) ?_
      try simp only [Act.put, List.setIfInBounds_toArray, List.set_cons_zero, List.set_cons_succ]
      refine Until.wpU_ready (rs := [5]) (by kernel_rfl) (by simp) ?_
      refine (Until.AllU.cons (o := { dst := some 80, op := Op.call { callee := Callee.value (Operand.func 18), args := #[Operand.tmp 77, Operand.tmp 79], argTypes := #[49, 3] }, type := 25, pos := "ref.go:285", after := #[{ on := 2, ground := Ground.data }, { on := 4, ground := Ground.data }], guard := none }) rfl (fun K hK => ?_) Until.AllU.nil)
      go_simp
      refine hcall.out.mono ?_
      rintro e3 w3 ⟨k2, x2, s2, an2, ln2, cn2, ai2, li2, ci2, rfl, hsn, hS3, hF3⟩
      have hM3 := hid_e (hM1.out.next hF3)
      have hM3r : Hid (∀ u q, val q2 = .ok u q → QM w r 5 (.slice an ns.length cn) (.slice ao m ci) (.slice an ns.length cn) (.slice ao m ci) ns.length (strs ns) m xI (its ++ [u]) (xI ++ five k2 x2 s2 (.slice an2 ln2 cn2) (.slice ai2 li2 ci2)) w3) := fun u q e => hM1.out.read hF3 (hsn u q e) rfl
      clear hsn
      have b3 := hM3.out.box
      refine hK.out _ _ trivial (fun _ => b3) ?_
      clear hK K hcall hbx hRX
      try simp only [Act.put, List.setIfInBounds_toArray, List.set_cons_zero, List.set_cons_succ]
      refine Until.wpU_ready (rs := [6]) (by kernel_rfl) (by simp) ?_
      refine (Until.AllU.cons (o := { dst := some 81, op := Op.buildSlice 23 1 #[(0, Operand.tmp 80)], type := 23, pos := "ref.go:285", after := #[{ on := 5, ground := Ground.data }], guard := none }) rfl (fun K hK => ?_) Until.AllU.nil)
      go_simp
      have hM4 := hid_e (hM3.out.alloc (.cells #[.int .i64 k2, .int .i64 x2, .string s2, .slice an2 ln2 cn2, .slice ai2 li2 ci2] 25))
      have hM4r : Hid (∀ u q, val q2 = .ok u q → QM w r 5 (.slice an ns.length cn) (.slice ao m ci) (.slice an ns.length cn) (.slice ao m ci) ns.length (strs ns) m xI (its ++ [u]) (xI ++ five k2 x2 s2 (.slice an2 ln2 cn2) (.slice ai2 li2 ci2)) (w3.alloc (.cells #[.int .i64 k2, .int .i64 x2, .string s2, .slice an2 ln2 cn2, .slice ai2 li2 ci2] 25))) := fun u q e => (hM3r.out u q e).alloc _
      have nb := heap_alloc_new w3 (.cells #[.int .i64 k2, .int .i64 x2, .string s2, .slice an2 ln2 cn2, .slice ai2 li2 ci2] 25)
      have hS4 : Hid (RSt (w3.alloc (.cells #[.int .i64 k2, .int .i64 x2, .string s2, .slice an2 ln2 cn2, .slice ai2 li2 ci2] 25)) r a c l.length (val q2)) := hS3.keep ((Fr.refl _ w3).alloc _)
      have b4 := hM4.out.box
      refine hK.out _ _ trivial (fun _ => b4) ?_
      clear hK K
      try simp only [Act.put, List.setIfInBounds_toArray, List.set_cons_zero, List.set_cons_succ]
      generalize w3.alloc (.cells #[.int .i64 k2, .int .i64 x2, .string s2, .slice an2 ln2 cn2, .slice ai2 li2 ci2] 25) = Y4 at hM4 hM4r nb b4 hS4 ⊢
      replace nb := hid_e nb
      refine Until.wpU_ready (rs := [7]) (by kernel_rfl) (by simp) ?_
      refine (Until.AllU.cons (o := { dst := some 82, op := Op.call { callee := Callee.builtin Builtin.append, args := #[Operand.tmp 76, Operand.tmp 81], argTypes := #[23, 23] }, type := 23, pos := "ref.go:285", after := #[{ on := 1, ground := Ground.data }, { on := 6, ground := Ground.data }, { on := 5, ground := Ground.chain }], guard := none }) rfl (fun K hK => ?_) Until.AllU.nil)
      refine step_append_lies _ (by rfl) _ _ 23 (by rfl) (w.heap.size + 2) 25 i0 _ 5 80 Tryd.underlying23 hi hz0 hz1 hz2 (by rfl) (by omega) _ m xI (by rfl) hM4.out.items _ 1 1 [.int .i64 k2, .int .i64 x2, .string s2, .slice an2 ln2 cn2, .slice ai2 li2 ci2] (by rfl) (by rfl) (World.news_of_block nb.out) (five_one _ _ _ _ _ _ _ _ _) (by omega) (by unfold maxLen; omega) (by omega) hM4.out.size _ rfl ?_
      intro gi cI Y5 how hgr hat hlt
      have hM5 := hid_e (hM4.out.growI hgr hat how)
      have hM5r : Hid (∀ u q, val q2 = .ok u q → QM w r 5 (.slice an ns.length cn) (.slice ao m ci) (.slice an ns.length cn) (.slice (some ⟨gi, 0, none⟩) (m + 1) cI) ns.length (strs ns) (m + 1) (xI ++ five k2 x2 s2 (.slice an2 ln2 cn2) (.slice ai2 li2 ci2)) (its ++ [u]) (xI ++ five k2 x2 s2 (.slice an2 ln2 cn2) (.slice ai2 li2 ci2)) Y5) := fun u q e => (hM4r.out u q e).growI hgr hat how
      have hne : ∀ g, (Value.slice ao m ci).ownBlock = some g → w.heap.size ≤ g := fun g e => by have := (ownsRow_ge hM4.out.items e).1; omega
      have hFr5 : Fr (fun j => w.heap.size ≤ j) Y4 Y5 := (Fr.refl _ Y4).grown hgr (fun g hg => .inl (hne g hg))
      have hS5 : Hid (RSt Y5 r a c l.length (val q2)) := hS4.out.keepF hFr5 (by omega)
      have b5 := hM5.out.box
      clear how hgr hat hlt hne hFr5
      refine hK.out _ _ trivial (fun _ => b5) ?_
      clear hK K
      try simp only [Act.put, List.setIfInBounds_toArray, List.set_cons_zero, List.set_cons_succ]
      refine Until.wpU_pure (i := 8) (oi := { dst := some 83, op := Op.fieldAddr 25 (Operand.tmp 7) 4, type := 0, pos := "ref.go:285", after := #[{ on := 0, ground := Ground.phase }, { on := 1, ground := Ground.phase }, { on := 2, ground := Ground.phase }, { on := 3, ground := Ground.phase }, { on := 4, ground := Ground.phase }, { on := 5, ground := Ground.phase }, { on := 6, ground := Ground.phase }, { on := 7, ground := Ground.phase }], guard := none }) (v := .pointer (some ⟨w.heap.size + 1, 4, none⟩)) rfl (by kernel_rfl) (by kernel_rfl) (by kernel_rfl) (by kernel_rfl) (by kernel_rfl) (fun _ _ _ h => h) (trivial) (fun _ => b5) (by rfl) (by intro w'; go_simp) ?_
      try simp only [Act.put, List.setIfInBounds_toArray, List.set_cons_zero, List.set_cons_succ]
      obtain ⟨-, -, -, -, z4, zf⟩ := row_cells b5
      have zf4 := zf 4
      clear zf
      refine Until.wpU_ready (rs := [9]) (by kernel_rfl) (by simp) ?_
      refine (Until.AllU.cons (o := { dst := none, op := Op.store 23 (Operand.tmp 83) (Operand.tmp 82), type := 0, pos := "ref.go:285", after := #[{ on := 8, ground := Ground.data }, { on := 7, ground := Ground.data }, { on := 7, ground := Ground.chain }, { on := 0, ground := Ground.phase }, { on := 1, ground := Ground.phase }, { on := 2, ground := Ground.phase }, { on := 3, ground := Ground.phase }, { on := 4, ground := Ground.phase }, { on := 5, ground := Ground.phase }, { on := 6, ground := Ground.phase }, { on := 7, ground := Ground.phase }], guard := none }) rfl (fun K hK => ?_) Until.AllU.nil)
      go_simp
      have hM6 := hid_e (hM5.out.setI (.slice (some ⟨gi, 0, none⟩) (m + 1) cI)).blind
      have hFr6 : Fr (fun j => w.heap.size ≤ j) Y5 (Y5.setCell ⟨w.heap.size + 1, 4, none⟩ (.slice (some ⟨gi, 0, none⟩) (m + 1) cI)) := (Fr.refl _ Y5).set _ _ (.inl (by show w.heap.size ≤ w.heap.size + 1; omega))
      have hM6r : Hid (∀ u q, val q2 = .ok u q → QM w r 5 (.slice an ns.length cn) (.slice (some ⟨gi, 0, none⟩) (m + 1) cI) (.slice an ns.length cn) (.slice (some ⟨gi, 0, none⟩) (m + 1) cI) ns.length (strs ns) (m + 1) (xI ++ five k2 x2 s2 (.slice an2 ln2 cn2) (.slice ai2 li2 ci2)) (its ++ [u]) (xI ++ five k2 x2 s2 (.slice an2 ln2 cn2) (.slice ai2 li2 ci2)) (Y5.setCell ⟨w.heap.size + 1, 4, none⟩ (.slice (some ⟨gi, 0, none⟩) (m + 1) cI))) := fun u q e => (hM5r.out u q e).setI _
      have hS6 : Hid (RSt (Y5.setCell ⟨w.heap.size + 1, 4, none⟩ (.slice (some ⟨gi, 0, none⟩) (m + 1) cI)) r a c l.length (val q2)) := hS5.out.keepF hFr6 (by omega)
      refine hK.out _ _ trivial (fun h => absurd h (by decide)) ?_
      clear hK K z4 zf4 b3 b4 b5 hFr6
      try simp only [Act.put, List.setIfInBounds_toArray, List.set_cons_zero, List.set_cons_succ]
      refine Until.wpU_done (by kernel_rfl) ?_ _
      refine NoPanic.normal ?_
      go_wp2_with fail
      go_roundg g'
      case measure => omega
      case rel =>
        cases hV : val q2 with
        | no e q3 =>
          rw [hV] at hS6
          obtain ⟨he, qd, hRd⟩ := hS6.out
          refine ⟨ns, m + 1, _, an, cn, some ⟨gi, 0, none⟩, cI, hM6, .inr ⟨qd, e, q3, he, hid_e ?_, hid_e hRd⟩⟩
          rw [← hKv.out, hV]
        | ok u q3 =>
          rw [hV] at hS6
          obtain ⟨hq31, hq32⟩ := hle.out q2 u q3 hV
          refine ⟨ns, m + 1, xI ++ five k2 x2 s2 (.slice an2 ln2 cn2) (.slice ai2 li2 ci2), an, cn, some ⟨gi, 0, none⟩, cI, hM6, .inl ⟨q3, its ++ [u], hq32, by omega, ?_, by omega, hnm, hS6, hid_e (hM6r.out u q3 hV), hid_e ?_⟩⟩
          · rw [List.length_append, him]; rfl
          · rw [← hKv.out, hV]
set_option maxHeartbeats 8000000 in
set_option maxRecDepth 100000 in
theorem dobj_code (r : Nat) (a : Option Addr) (c p d : Nat) (l : List UInt8) (val : Nat → Rd Tr) (w : World) (hB : Hid (RBase w r a c l)) (h : Hid (RT w r a c l.length p 0 0)) (hp : p ≤ l.length) (hd : d ≤ 63) (hval : Hid (RValOk val r a c l ((d : Int) + 1)))
    (hle : Hid (∀ q t q', val q = .ok t q' → q < q' ∧ q' ≤ l.length)) :
    Calls Tryd.prog 40 #[.pointer (some ⟨r, 0, none⟩), .bool true, .int .i64 (d : Int)] w (RValPost w r a c l (objR val l (l.length + 1) p [] [])) := by
  have hlen := hB.out.len
  have hrl := hB.out.lt
  obtain ⟨R, hR⟩ : ∃ R, Hid (objR val l (l.length + 1) p [] [] = R) := ⟨_, hid_e rfl⟩
  rw [hR.out]
  obtain ⟨i0, hi, hz0, hz1, hz2⟩ := info_parts AV
  obtain ⟨i9, hi9, hy0, hy1, hy2⟩ := info_parts A9
  have hX0 : Fr (· = r) w ((w.alloc (.cells #[.int .i64 0, .int .i64 0, .string ⟨#[]⟩, .slice none 0 0, .slice none 0 0] 25)).alloc (.cells #[.int .i64 5, .int .i64 0, .string ⟨#[]⟩, .slice none 0 0, .slice none 0 0] 25)) := ((Fr.refl _ w).alloc _).alloc _
  have x1 := new1 w (.cells #[.int .i64 0, .int .i64 0, .string ⟨#[]⟩, .slice none 0 0, .slice none 0 0] 25) (.cells #[.int .i64 5, .int .i64 0, .string ⟨#[]⟩, .slice none 0 0, .slice none 0 0] 25)
  have x2 := new2 w (.cells #[.int .i64 0, .int .i64 0, .string ⟨#[]⟩, .slice none 0 0, .slice none 0 0] 25) (.cells #[.int .i64 5, .int .i64 0, .string ⟨#[]⟩, .slice none 0 0, .slice none 0 0] 25)
  have hR0 := RT.keep (S := fun _ => False) h.out (((Fr.refl _ w).alloc (.cells #[.int .i64 0, .int .i64 0, .string ⟨#[]⟩, .slice none 0 0, .slice none 0 0] 25)).alloc (.cells #[.int .i64 5, .int .i64 0, .string ⟨#[]⟩, .slice none 0 0, .slice none 0 0] 25)) (fun e => e)
  go_enter Tryd.func40, Tryd.ntmps40
  go_upto_region 2 with fail
  generalize ((w.alloc (.cells #[.int .i64 0, .int .i64 0, .string ⟨#[]⟩, .slice none 0 0, .slice none 0 0] 25)).alloc (.cells #[.int .i64 5, .int .i64 0, .string ⟨#[]⟩, .slice none 0 0, .slice none 0 0] 25)) = X0 at hX0 x1 x2 hR0 ⊢
  obtain ⟨z0, -, -, -, -, zf⟩ := row_cells x2
  have zf0 := zf 0
  clear zf
  have hX1 : Fr (· = r) w (X0.setCell ⟨w.heap.size + 1, 0, none⟩ (.int .i64 6)) := hX0.set _ _ (.inr (by show w.heap.size ≤ w.heap.size + 1; omega))
  have y1 : (X0.setCell ⟨w.heap.size + 1, 0, none⟩ (.int .i64 6)).heap[w.heap.size]? = _ := (Below.heap_setCell _ _ _ _ (by show w.heap.size ≠ w.heap.size + 1; omega)).trans x1
  have y2 : (X0.setCell ⟨w.heap.size + 1, 0, none⟩ (.int .i64 6)).heap[w.heap.size + 1]? = some (.cells #[.int .i64 6, .int .i64 0, .string ⟨#[]⟩, .slice none 0 0, .slice none 0 0] 25 (0, 0)) := by simp [World.setCell, Array.getElem?_modify, x2]
  have hR1 := RT.keep (S := fun j => w.heap.size ≤ j) hR0 ((Fr.refl _ X0).set ⟨w.heap.size + 1, 0, none⟩ (.int .i64 6) (.inl (by show w.heap.size ≤ w.heap.size + 1; omega))) (by omega)
  go_wp2_with fail
  clear z0 zf0 hX0 x1 x2 hR0
  generalize X0.setCell ⟨w.heap.size + 1, 0, none⟩ (.int .i64 6) = X1 at hX1 y1 y2 hR1 ⊢
  have hM0 : QM w r 6 (.slice none 0 0) (.slice none 0 0) (.slice none 0 0) (.slice none 0 0) 0 (strs []) 0 [] [] [] X1 := ⟨hrl, hX1, y1, y2, World.ownsRow_nil _ _ _ _, World.ownsRow_nil _ _ _ _, (fun j e => by cases e), (fun W' _ => by unfold ItemsRep; rfl)⟩
  clear hX1 y1 y2
  go_loopg [] (l.length + 1) (fun gk wr => ∃ (ns : List ByteArray) (m : Nat) (xI : List Value) (an : Option Addr) (cn : Nat) (ao : Option Addr) (ci : Nat), Hid (QM w r 6 (.slice an ns.length cn) (.slice ao m ci) (.slice an ns.length cn) (.slice ao m ci) ns.length (strs ns) m xI [] [] wr) ∧ ((∃ (q : Nat) (its : List Tr), q ≤ l.length ∧ l.length - q < gk ∧ its.length = m ∧ m ≤ q ∧ (Hid (ns.length = m)) ∧ Hid (RT wr r a c l.length q 0 0) ∧ Hid (QM w r 6 (.slice an ns.length cn) (.slice ao m ci) (.slice an ns.length cn) (.slice ao m ci) ns.length (strs ns) m xI its xI wr) ∧ Hid (objR val l gk q ns its = R)) ∨ (∃ (q : Nat) (e : Int) (pl : Nat), e ≠ 0 ∧ Hid (R = .no e pl) ∧ Hid (RT wr r a c l.length q e pl))))
  case atStart => exact ⟨[], 0, [], none, 0, none, 0, hid_e hM0.blind, .inl ⟨p, [], hp, by omega, rfl, Nat.zero_le _, hid_e rfl, hid_e hR1, hid_e hM0, hR⟩⟩
  case round =>
    clear hM0 hR1 hR h
    obtain ⟨ns, m, xI, an, cn, ao, ci, hQ, hst⟩ := hrel
    rcases hst with ⟨q, its, hq, hgk, him, hmq, hnm, hA, hM, hK⟩ | ⟨q, e, pl, he, hRe, hA⟩
    rotate_left
    · have hn := hid_e (next_dead r a c l.length q pl e wr hA.out he)
      go_wp2_with fail
      go_fit hn.out
      clear hn
      rintro e1 w1 ⟨rfl, hw⟩
      replace hw := hw.symm
      subst hw
      obtain ⟨z0, z1, z2, z3, z4, -⟩ := row_cells hQ.out.box
      obtain ⟨v0, v1, v2, v3, v4, vf⟩ := row_cells hQ.out.res
      have vf0 := vf 0; have vf1 := vf 1; have vf2 := vf 2; have vf3 := vf 3; have vf4 := vf 4
      clear vf
      go_wp2_with fail
      have hr5 := put5_cells hQ.out.res (.int .i64 6) (.int .i64 0) (.string ⟨#[]⟩) (.slice an ns.length cn) (.slice ao m ci)
      have r0 := hr5 0; have r1 := hr5 1; have r2 := hr5 2; have r3 := hr5 3; have r4 := hr5 4
      clear hr5
      refine bodyPost_ret (v := .agg #[.int .i64 6, .int .i64 0, .string ⟨#[]⟩, .slice an ns.length cn, .slice ao m ci]) (by simp [results, Tryd.results40, go_sem, r0, r1, r2, r3, r4]) rfl ?_
      rw [hRe.out]
      exact ⟨_, _, _, _, _, _, _, _, _, rfl, (fun t q e => by cases e), RSt.put5 (R := (.no e pl : Rd Tr)) ⟨he, q, hA.out⟩ (by omega) _ _ _ _ _, hQ.out.fr.put5 (.inr (Nat.le_refl _)) _ _ _ _ _⟩
    clear hQ
    obtain ⟨g', rfl⟩ : ∃ g', gk = g' + 1 := ⟨gk - 1, by omega⟩
    have hn := hid_e (next_code r a c q l wr (hB.out.keepR hM.out.fr) hA.out hq)
    go_wp2_with fail
    go_fit hn.out
    clear hn
    rintro e1 w1 ⟨rfl, hS, hF1⟩
    have hM1 := hid_e (hM.out.next hF1)
    clear hM hA hF1
    cases hN : nextR l q with
    | no e1 q1 =>
      rw [hN] at hS
      obtain ⟨m1, rfl, rfl⟩ := next_none hN
      have hRe : Hid (R = .no 3 l.length) := by rw [Hid, ← hK.out, objR, none_more m1]
      have b1 : (Rd.no 3 l.length : Rd UInt8).good = false := rfl
      rw [b1]
      clear b1 hN
      obtain ⟨z0, z1, z2, z3, z4, -⟩ := row_cells hM1.out.box
      obtain ⟨v0, v1, v2, v3, v4, vf⟩ := row_cells hM1.out.res
      have vf0 := vf 0; have vf1 := vf 1; have vf2 := vf 2; have vf3 := vf 3; have vf4 := vf 4
      clear vf
      go_wp2_with fail
      have hr5 := put5_cells hM1.out.res (.int .i64 6) (.int .i64 0) (.string ⟨#[]⟩) (.slice an ns.length cn) (.slice ao m ci)
      have r0 := hr5 0; have r1 := hr5 1; have r2 := hr5 2; have r3 := hr5 3; have r4 := hr5 4
      clear hr5
      refine bodyPost_ret (v := .agg #[.int .i64 6, .int .i64 0, .string ⟨#[]⟩, .slice an ns.length cn, .slice ao m ci]) (by simp [results, Tryd.results40, go_sem, r0, r1, r2, r3, r4]) rfl ?_
      rw [hRe.out]
      exact ⟨_, _, _, _, _, _, _, _, _, rfl, (fun t q e => by cases e), RSt.put5 (R := (.no 3 l.length : Rd Tr)) hS (by omega) _ _ _ _ _, hM1.out.fr.put5 (.inr (Nat.le_refl _)) _ _ _ _ _⟩
    | ok b q1 =>
      rw [hN] at hS
      obtain ⟨m1, rfl, m3⟩ := next_some hN
      have b1 : (Rd.ok b (q + 1) : Rd UInt8).good = true := rfl
      have b2 : (Rd.ok b (q + 1) : Rd UInt8).val 0 = b := rfl
      rw [b1, b2]
      clear b1 b2 hN
      have hmr := hid_e (next_more m1)
      replace hS : Hid (RT w1 r a c l.length (q + 1) 0 0) := hS
      clear m1
      by_cases hb : b = 1
      · subst hb
        have hRe : Hid (R = .ok (.node 6 0 noS ns its) (q + 1)) := by rw [Hid, ← hK.out, objR, hmr.out]; rfl
        have z0 : (((1 : UInt8).toNat : Nat) : Int) = 1 := rfl
        rw [z0]
        clear z0
        subst him
        have hE := fun c0 c1 c2 c3 c4 => hid_e (qm_end hM1.out c0 c1 c2 c3 c4)
        obtain ⟨z0, z1, z2, z3, z4, -⟩ := row_cells hM1.out.box
        obtain ⟨v0, v1, v2, v3, v4, vf⟩ := row_cells hM1.out.res
        have vf0 := vf 0; have vf1 := vf 1; have vf2 := vf 2; have vf3 := vf 3; have vf4 := vf 4
        clear vf
        go_wp2_with fail
        have hr5 := put5_cells hM1.out.res (.int .i64 6) (.int .i64 0) (.string ⟨#[]⟩) (.slice an ns.length cn) (.slice ao its.length ci)
        have r0 := hr5 0; have r1 := hr5 1; have r2 := hr5 2; have r3 := hr5 3; have r4 := hr5 4
        clear hr5
        refine bodyPost_ret (v := .agg #[.int .i64 6, .int .i64 0, .string ⟨#[]⟩, .slice an ns.length cn, .slice ao its.length ci]) (by simp [results, Tryd.results40, go_sem, r0, r1, r2, r3, r4]) rfl ?_
        rw [hRe.out]
        exact ⟨_, _, _, _, _, _, _, _, _, rfl, (fun t q e => by cases e; exact (hE _ _ _ _ _).out), RSt.put5 (R := (.ok (.node 6 0 noS ns its) (q + 1) : Rd Tr)) hS.out (by omega) _ _ _ _ _, hM1.out.fr.put5 (.inr (Nat.le_refl _)) _ _ _ _ _⟩
      by_cases hb2 : b = 2
      rotate_left
      · have hRe : Hid (R = .no 30 q) := by rw [Hid, ← hK.out, objR, hmr.out, if_neg hb2, if_neg hb]
        have k1 := byte_ne hb
        have k2 := byte_ne hb2
        obtain ⟨z, hz⟩ : ∃ z, (b.toNat : Int) = z := ⟨_, rfl⟩
        rw [hz]
        have j1 : (z == 1) = false := by rw [← hz]; exact k1
        have j2 : (z != 2) = true := by rw [← hz]; simpa using k2
        clear hz k1 k2
        have hfl := hid_e (fail_code r a c l.length (q + 1) q 30 w1 hS.out)
        obtain ⟨-, y1, -, -, -⟩ := hS.out.cells
        rw [show ((q + 1 : Nat) : Int) = (q : Int) + 1 by omega] at y1
        have hq9 : (q : Int) ≤ 9223372036854775806 := by omega
        go_wp2_with fail
        go_fit hfl.out
        clear y1 hfl
        rintro e w2 ⟨rfl, hS2, hF2⟩
        have hM2 := hid_e (hM1.out.next hF2)
        obtain ⟨z0, z1, z2, z3, z4, -⟩ := row_cells hM2.out.box
        obtain ⟨v0, v1, v2, v3, v4, vf⟩ := row_cells hM2.out.res
        have vf0 := vf 0; have vf1 := vf 1; have vf2 := vf 2; have vf3 := vf 3; have vf4 := vf 4
        clear vf
        go_wp2_with fail
        have hr5 := put5_cells hM2.out.res (.int .i64 6) (.int .i64 0) (.string ⟨#[]⟩) (.slice an ns.length cn) (.slice ao m ci)
        have r0 := hr5 0; have r1 := hr5 1; have r2 := hr5 2; have r3 := hr5 3; have r4 := hr5 4
        clear hr5
        refine bodyPost_ret (v := .agg #[.int .i64 6, .int .i64 0, .string ⟨#[]⟩, .slice an ns.length cn, .slice ao m ci]) (by simp [results, Tryd.results40, go_sem, r0, r1, r2, r3, r4]) rfl ?_
        rw [hRe.out]
        exact ⟨_, _, _, _, _, _, _, _, _, rfl, (fun t q e => by cases e), RSt.put5 (R := (.no 30 q : Rd Tr)) ⟨by decide, _, hS2⟩ (by omega) _ _ _ _ _, hM2.out.fr.put5 (.inr (Nat.le_refl _)) _ _ _ _ _⟩
      subst hb2
      have z0 : (((2 : UInt8).toNat : Nat) : Int) = 2 := rfl
      rw [z0]
      clear z0 hb
      have hd1 : (d : Int) ≤ 100 := by omega
      have hwd : IntKind.i64.wrap ((d : Int) + 1) = (d : Int) + 1 := by have := Lib.wrap_i64_small (d + 1) (by omega); rw [show (((d + 1 : Nat) : Int)) = (d : Int) + 1 by omega] at this; exact this
      have htx := hid_e (dtext_code r a c (q + 1) l w1 (hid_e (hB.out.keepR hM1.out.fr)) hS m3)
      obtain ⟨-, y1, -, -, -⟩ := hS.out.cells
      obtain ⟨fr0, hfr0⟩ : ∃ z, Hid (q + 1 = z) := ⟨_, hid_e rfl⟩
      rw [hfr0.out] at y1 htx
      have hnl : ns.length ≤ 1000000000 := by have := hnm.out; omega
      go_upto_region 12 with fail
      go_wp2_with fail
      go_fit htx.out
      clear y1 htx hS
      rintro e2 w2 ⟨⟨sn, rfl, hsn⟩, hS2, hF2⟩
      have hM2 := hid_e (hM1.out.next hF2)
      clear hM1 hF2
      cases hT : textR l fr0 with
      | no e q2 =>
        rw [hT] at hS2
        obtain ⟨he, qd, hRd⟩ := hS2
        have hRe : Hid (R = .no e q2) := by rw [Hid, ← hK.out, objR, hmr.out, hfr0.out]; simp only [if_pos]; rw [hT]
        replace hRd := hid_e hRd
        clear hsn hK hmr hT
        have he2 : (e == 0) = false := by simpa using he
        obtain ⟨-, -, y2, -, -⟩ := hRd.out.cells
        go_wp2_with fail
        go_loopw [12] (fun iv wr => iv = .int .i64 0 ∧ wr = w2) (fun _ _ => 0)
        case atStart => exact ⟨rfl, rfl⟩
        case round =>
          obtain ⟨rfl, rfl⟩ := hrel
          obtain ⟨-, -, -, z3, -, -⟩ := row_cells hM2.out.box
          have hMa := hid_e (hM2.out.alloc (.cells #[.string sn] 9))
          obtain ⟨-, -, -, z3a, -, -⟩ := row_cells hMa.out.box
          go_upto_region 18 with fail
          go_wp2_with (at_builtin; refine wpList_append_lies _ rfl _ _ 22 rfl (w.heap.size + 2) 9 i9 _ 1 16 Tryd.underlying22 hi9 hy0 hy1 hy2 rfl (by decide) _ ns.length (strs ns) rfl hMa.out.names _ 1 1 [.string sn] rfl rfl (World.news_of_block (heap_alloc_new wr (.cells #[.string sn] 9))) (str_one _) (by decide) (by unfold maxLen; omega) (by omega) hMa.out.size _ rfl ?_; intro gn cN Wn how hgr hat hlt; have hMb := hid_e (hMa.out.growN hgr hat how); obtain ⟨-, -, -, z3b, -, zfb⟩ := row_cells hMb.out.box; have zf3 := zfb 3; clear zfb; have hRb := hid_e (RT.keep (S := fun j => w.heap.size ≤ j) (RT.keep (S := fun _ => False) hRd.out ((Fr.refl _ wr).alloc (.cells #[.string sn] 9)) (fun e => e)) ((Fr.refl _ _).grown hgr (fun g hg => .inl (by have := (ownsRow_ge hMa.out.names hg).1; omega))) (by omega)); replace hgr := hid_e hgr; clear hat hlt how)
          have hMc := hid_e (hMb.out.setN (.slice (some ⟨gn, 0, none⟩) (ns.length + 1) cN))
          have hRc := hid_e (RT.keep (S := fun j => w.heap.size ≤ j) hRb.out ((Fr.refl _ Wn).set ⟨w.heap.size + 1, 3, none⟩ (.slice (some ⟨gn, 0, none⟩) (ns.length + 1) cN) (.inl (by show w.heap.size ≤ w.heap.size + 1; omega))) (by omega))
          clear z3 z3a z3b zf3 hMa hMb hRb hgr hM2 hRd
          generalize Wn.setCell ⟨w.heap.size + 1, 3, none⟩ (.slice (some ⟨gn, 0, none⟩) (ns.length + 1) cN) = Wc at hMc hRc ⊢
          go_upto_region 19 with fail
          replace hMc := hid_e hMc.out.drew
          have hbx := hMc.out.box
          have hRX := hid_e (RT.keep (S := fun _ => False) hRc.out ((Fr.refl _ Wc).drew) (fun e => e))
          have hcall := hid_e (dval_dead r a c l.length _ _ _ ((d : Int) + 1) Wc.drew hRX.out he)
          generalize hX : Wc.drew = X at hMc hbx hRX hcall
          refine wp_region_noPanic ?_
          refine Until.wp_region_U (fun _ => True) (fun W => W.heap[w.heap.size + 1]? = some (.cells #[.int .i64 6, .int .i64 0, .string ⟨#[]⟩, .slice (some ⟨gn, 0, none⟩) (ns.length + 1) cN, .slice ao m ci] 25 (0, 0))) 9 (by kernel_rfl) ?_
          rw [hX]
          clear hX
          refine Until.wpU_pure (i := 0) (oi := { dst := some 75, op := Op.fieldAddr 25 (Operand.tmp 7) 4, type := 0, pos := "ref.go:285", after := #[], guard := none }) (v := .pointer (some ⟨w.heap.size + 1, 4, none⟩)) rfl (by kernel_rfl) (by kernel_rfl) (by kernel_rfl) (by kernel_rfl) (by kernel_rfl) (fun _ _ _ h => h) (trivial) (fun _ => hbx) (by rfl) (by intro w'; go_simp) ?_
          try simp only [Act.put, List.setIfInBounds_toArray, List.set_cons_zero, List.set_cons_succ]
          refine Until.wpU_load1 (i := 1) (oi := { dst := some 76, op := Op.load 23 (Operand.tmp 75), type := 23, pos := "ref.go:285", after := #[{ on := 0, ground := Ground.data }], guard := none }) (v := .slice ao m ci) rfl (by kernel_rfl) (by kernel_rfl) (by kernel_rfl) (by kernel_rfl) (by kernel_rfl) (by kernel_rfl) (fun _ _ _ h => h) (trivial) (hbx) (by rfl) (by intro w' hw'; obtain ⟨t0, t1, t2, t3, t4, -⟩ := row_cells hw'; go_simp) ?_
          try simp only [Act.put, List.setIfInBounds_toArray, List.set_cons_zero, List.set_cons_succ]
          refine Until.wpU_pure (i := 2) (oi := { dst := some 77, op := Op.move (Operand.tmp 0), type := 49, pos := "ref.go:285", after := #[], guard := none }) (v := .pointer (some ⟨r, 0, none⟩)) rfl (by kernel_rfl) (by kernel_rfl) (by kernel_rfl) (by kernel_rfl) (by kernel_rfl) (fun _ _ _ h => h) (trivial) (fun _ => hbx) (by rfl) (by intro w'; go_simp) ?_
          try simp only [Act.put, List.setIfInBounds_toArray, List.set_cons_zero, List.set_cons_succ]
          refine Until.wpU_pure (i := 3) (oi := { dst := some 78, op := Op.move (Operand.tmp 2), type := 3, pos := "ref.go:285", after := #[], guard := none }) (v := .int .i64 (d : Int)) rfl (by kernel_rfl) (by kernel_rfl) (by kernel_rfl) (by kernel_rfl) (by kernel_rfl) (fun _ _ _ h => h) (trivial) (fun _ => hbx) (by rfl) (by intro w'; go_simp) ?_
          try simp only [Act.put, List.setIfInBounds_toArray, List.set_cons_zero, List.set_cons_succ]
          refine Until.wpU_pure (i := 4) (oi := { dst := some 79, op := Op.binOp BinOp.add 3 (Operand.tmp 78) (Operand.const (Value.int IntKind.i64 1)) 3, type := 3, pos := "ref.go:285", after := #[{ on := 3, ground := Ground.data }], guard := none }) (v := .int .i64 ((d : Int) + 1)) rfl (by kernel_rfl) (by kernel_rfl) (by kernel_rfl) (by kernel_rfl) (by kernel_rfl) (fun _ _ _ h => h) (trivial) (fun _ => hbx) (by rfl) (by intro w'; go_simp) ?_
          try simp only [Act.put, List.setIfInBounds_toArray, List.set_cons_zero, List.set_cons_succ]
          refine Until.wpU_ready (rs := [5]) (by kernel_rfl) (by simp) ?_
          refine (Until.AllU.cons (o := { dst := some 80, op := Op.call { callee := Callee.value (Operand.func 18), args := #[Operand.tmp 77, Operand.tmp 79], argTypes := #[49, 3] }, type := 25, pos := "ref.go:285", after := #[{ on := 2, ground := Ground.data }, { on := 4, ground := Ground.data }], guard := none }) rfl (fun K hK => ?_) Until.AllU.nil)
          go_simp
          refine hcall.out.mono ?_
          rintro e3 w3 ⟨rfl, hF3, hR3⟩
          have hM3 := hid_e (hMc.out.next hF3)
          have b3 := hM3.out.box
          refine hK.out _ _ trivial (fun _ => b3) ?_
          clear hK K hcall hbx hRX
          try simp only [Act.put, List.setIfInBounds_toArray, List.set_cons_zero, List.set_cons_succ]
          refine Until.wpU_ready (rs := [6]) (by kernel_rfl) (by simp) ?_
          refine (Until.AllU.cons (o := { dst := some 81, op := Op.buildSlice 23 1 #[(0, Operand.tmp 80)], type := 23, pos := "ref.go:285", after := #[{ on := 5, ground := Ground.data }], guard := none }) rfl (fun K hK => ?_) Until.AllU.nil)
          go_simp
          have hM4 := hid_e (hM3.out.alloc (.cells #[.int .i64 0, .int .i64 0, .string ⟨#[]⟩, .slice none 0 0, .slice none 0 0] 25))
          have nb := heap_alloc_new w3 (.cells #[.int .i64 0, .int .i64 0, .string ⟨#[]⟩, .slice none 0 0, .slice none 0 0] 25)
          have hR4 := hid_e (hR3.keep (S := fun _ => False) ((Fr.refl _ w3).alloc (.cells #[.int .i64 0, .int .i64 0, .string ⟨#[]⟩, .slice none 0 0, .slice none 0 0] 25)) (fun e => e))
          have b4 := hM4.out.box
          refine hK.out _ _ trivial (fun _ => b4) ?_
          clear hK K
          try simp only [Act.put, List.setIfInBounds_toArray, List.set_cons_zero, List.set_cons_succ]
          generalize w3.alloc (.cells #[.int .i64 0, .int .i64 0, .string ⟨#[]⟩, .slice none 0 0, .slice none 0 0] 25) = Y4 at hM4  nb b4 hR4 ⊢
          replace nb := hid_e nb
          refine Until.wpU_ready (rs := [7]) (by kernel_rfl) (by simp) ?_
          refine (Until.AllU.cons (o := { dst := some 82, op := Op.call { callee := Callee.builtin Builtin.append, args := #[Operand.tmp 76, Operand.tmp 81], argTypes := #[23, 23] }, type := 23, pos := "ref.go:285", after := #[{ on := 1, ground := Ground.data }, { on := 6, ground := Ground.data }, { on := 5, ground := Ground.chain }], guard := none }) rfl (fun K hK => ?_) Until.AllU.nil)
          refine step_append_lies _ (by rfl) _ _ 23 (by rfl) (w.heap.size + 2) 25 i0 _ 5 80 Tryd.underlying23 hi hz0 hz1 hz2 (by rfl) (by omega) _ m xI (by rfl) hM4.out.items _ 1 1 [.int .i64 0, .int .i64 0, .string ⟨#[]⟩, .slice none 0 0, .slice none 0 0] (by rfl) (by rfl) (World.news_of_block nb.out) (five_one _ _ _ _ _ _ _ _ _) (by omega) (by unfold maxLen; omega) (by omega) hM4.out.size _ rfl ?_
          intro gi cI Y5 how hgr hat hlt
          have hM5 := hid_e (hM4.out.growI hgr hat how)
          have hne : ∀ g, (Value.slice ao m ci).ownBlock = some g → w.heap.size ≤ g := fun g e => by have := (ownsRow_ge hM4.out.items e).1; omega
          have hFr5 : Fr (fun j => w.heap.size ≤ j) Y4 Y5 := (Fr.refl _ Y4).grown hgr (fun g hg => .inl (hne g hg))
          have hR5 := hid_e (hR4.out.keep hFr5 (by omega))
          have b5 := hM5.out.box
          clear how hgr hat hlt hne hFr5
          refine hK.out _ _ trivial (fun _ => b5) ?_
          clear hK K
          try simp only [Act.put, List.setIfInBounds_toArray, List.set_cons_zero, List.set_cons_succ]
          refine Until.wpU_pure (i := 8) (oi := { dst := some 83, op := Op.fieldAddr 25 (Operand.tmp 7) 4, type := 0, pos := "ref.go:285", after := #[{ on := 0, ground := Ground.phase }, { on := 1, ground := Ground.phase }, { on := 2, ground := Ground.phase }, { on := 3, ground := Ground.phase }, { on := 4, ground := Ground.phase }, { on := 5, ground := Ground.phase }, { on := 6, ground := Ground.phase }, { on := 7, ground := Ground.phase }], guard := none }) (v := .pointer (some ⟨w.heap.size + 1, 4, none⟩)) rfl (by kernel_rfl) (by kernel_rfl) (by kernel_rfl) (by kernel_rfl) (by kernel_rfl) (fun _ _ _ h => h) (trivial) (fun _ => b5) (by rfl) (by intro w'; go_simp) ?_
          try simp only [Act.put, List.setIfInBounds_toArray, List.set_cons_zero, List.set_cons_succ]
          obtain ⟨-, -, -, -, z4, zf⟩ := row_cells b5
          have zf4 := zf 4
          clear zf
          refine Until.wpU_ready (rs := [9]) (by kernel_rfl) (by simp) ?_
          refine (Until.AllU.cons (o := { dst := none, op := Op.store 23 (Operand.tmp 83) (Operand.tmp 82), type := 0, pos := "ref.go:285", after := #[{ on := 8, ground := Ground.data }, { on := 7, ground := Ground.data }, { on := 7, ground := Ground.chain }, { on := 0, ground := Ground.phase }, { on := 1, ground := Ground.phase }, { on := 2, ground := Ground.phase }, { on := 3, ground := Ground.phase }, { on := 4, ground := Ground.phase }, { on := 5, ground := Ground.phase }, { on := 6, ground := Ground.phase }, { on := 7, ground := Ground.phase }], guard := none }) rfl (fun K hK => ?_) Until.AllU.nil)
          go_simp
          have hM6 := hid_e (hM5.out.setI (.slice (some ⟨gi, 0, none⟩) (m + 1) cI)).blind
          have hFr6 : Fr (fun j => w.heap.size ≤ j) Y5 (Y5.setCell ⟨w.heap.size + 1, 4, none⟩ (.slice (some ⟨gi, 0, none⟩) (m + 1) cI)) := (Fr.refl _ Y5).set _ _ (.inl (by show w.heap.size ≤ w.heap.size + 1; omega))
          have hR6 := hid_e (hR5.out.keep hFr6 (by omega))
          refine hK.out _ _ trivial (fun h => absurd h (by decide)) ?_
          clear hK K z4 zf4 b3 b4 b5 hFr6
          try simp only [Act.put, List.setIfInBounds_toArray, List.set_cons_zero, List.set_cons_succ]
          refine Until.wpU_done (by kernel_rfl) ?_ _
          refine NoPanic.normal ?_
          go_wp2_with fail
          go_roundg g'
          case measure => omega
          case rel =>
            have eN : (ns ++ [sn]).length = ns.length + 1 := by simp
            rw [← strs_snoc] at hM6
            rw [← eN] at hM6
            exact ⟨ns ++ [sn], m + 1, _, some ⟨gn, 0, none⟩, cN, some ⟨gi, 0, none⟩, cI, hM6, .inr ⟨_, _, _, he, hRe, hR6⟩⟩
      | ok s2 q2 =>
        rw [hT] at hS2 hsn
        obtain rfl := hsn s2 q2 rfl
        clear hsn
        replace hS2 : Hid (RT w2 r a c l.length q2 0 0) := hS2
        obtain ⟨-, t2, t3, -⟩ := text_sound hT
        go_wp2_with fail
        go_loopw [12] (fun iv wr => ∃ i : Nat, i ≤ ns.length ∧ iv = .int .i64 i ∧ Hid (QM w r 6 (.slice an ns.length cn) (.slice ao m ci) (.slice an ns.length cn) (.slice ao m ci) ns.length (strs ns) m xI its xI wr) ∧ ((Hid (∀ j (hj : j < ns.length), j < i → ns[j] ≠ sn) ∧ Hid (RT wr r a c l.length q2 0 0)) ∨ (Hid (hasName ns sn = true) ∧ Hid (RT wr r a c l.length q2 16 fr0)))) (fun iv _ => ns.length - (intOf iv).toNat)
        case atStart => exact ⟨0, Nat.zero_le _, rfl, hM2, .inl ⟨hid_e (fun _ _ h => absurd h (by omega)), hS2⟩⟩
        case round =>
          clear hM2 hS2
          obtain ⟨i, hin, rfl, hM2, hst⟩ := hrel
          rcases hst with ⟨hfree, hA⟩ | ⟨hhas, hA⟩
          · by_cases hlt : i < ns.length
            · obtain ⟨gx, rfl, hcx⟩ := name_at hM2.out.names hlt
              obtain ⟨nx, hnx⟩ : ∃ z, Hid (ns[i] = z) := ⟨_, hid_e rfl⟩
              rw [hnx.out] at hcx
              obtain ⟨-, -, y2, -, -⟩ := hA.out.cells
              obtain ⟨-, -, -, z3, -, -⟩ := row_cells hM2.out.box
              have i1 : (i : Int) < (ns.length : Int) := by omega
              by_cases heq : nx = sn
              · have hhas : Hid (hasName ns sn = true) := has_at hlt (hnx.out.trans heq)
                have hdq : (nx.toList == sn.toList) = true := by rw [str_beq, heq]; simp
                have hfl := hid_e (fail_code r a c l.length q2 fr0 16 wr hA.out)
                go_wp2_with fail
                go_fit hfl.out
                clear hfl y2 z3 hcx
                rintro e3 w3 ⟨rfl, hS3, hF3⟩
                have hM3 := hid_e (hM2.out.next hF3)
                go_wp2_with fail
                go_roundw
                case rel => exact ⟨i + 1, hlt, by go_num, hM3, .inr ⟨hhas, hid_e hS3⟩⟩
                case measure => simp [intOf]; omega
              · have hdq : (nx.toList == sn.toList) = false := by rw [str_beq]; simpa using heq
                go_wp2_with fail
                clear y2 z3 hcx
                go_roundw
                case rel => exact ⟨i + 1, hlt, by go_num, hM2, .inl ⟨hid_e (fun j hj h => (Nat.lt_or_ge j i).elim (fun h' => hfree.out j hj h') (fun h' => by obtain rfl : j = i := (by omega); rw [hnx.out]; exact heq)), hA⟩⟩
                case measure => simp [intOf]; omega
            · obtain rfl : i = ns.length := by omega
              have hno : Hid (hasName ns sn = false) := has_no (fun j hj => hfree.out j hj hj)
              obtain ⟨-, -, y2, -, -⟩ := hA.out.cells
              obtain ⟨-, -, -, z3, -, -⟩ := row_cells hM2.out.box
              have hKv : Hid ((match val q2 with | .no e q' => (.no e q' : Rd Tr) | .ok t q' => objR val l g' q' (ns ++ [sn]) (its ++ [t])) = R) := by rw [Hid, ← hK.out, objR, hmr.out, hfr0.out]; simp only [if_pos]; rw [hT]; simp only; rw [hno.out, if_neg (by decide)]; rfl
              have hq2 : q2 ≤ l.length := by omega
              have hqq : q < q2 := by have := hfr0.out; omega
              clear hK hmr hT hfree hno hin hlt
              skip
              obtain ⟨-, -, -, z3, -, -⟩ := row_cells hM2.out.box
              have hMa := hid_e (hM2.out.alloc (.cells #[.string sn] 9))
              obtain ⟨-, -, -, z3a, -, -⟩ := row_cells hMa.out.box
              go_upto_region 18 with fail
              go_wp2_with (at_builtin; refine wpList_append_lies _ rfl _ _ 22 rfl (w.heap.size + 2) 9 i9 _ 1 16 Tryd.underlying22 hi9 hy0 hy1 hy2 rfl (by decide) _ ns.length (strs ns) rfl hMa.out.names _ 1 1 [.string sn] rfl rfl (World.news_of_block (heap_alloc_new wr (.cells #[.string sn] 9))) (str_one _) (by decide) (by unfold maxLen; omega) (by omega) hMa.out.size _ rfl ?_; intro gn cN Wn how hgr hat hlt; have hMb := hid_e (hMa.out.growN hgr hat how); obtain ⟨-, -, -, z3b, -, zfb⟩ := row_cells hMb.out.box; have zf3 := zfb 3; clear zfb; have hRb := hid_e (RT.keep (S := fun j => w.heap.size ≤ j) (RT.keep (S := fun _ => False) hA.out ((Fr.refl _ wr).alloc (.cells #[.string sn] 9)) (fun e => e)) ((Fr.refl _ _).grown hgr (fun g hg => .inl (by have := (ownsRow_ge hMa.out.names hg).1; omega))) (by omega)); replace hgr := hid_e hgr; clear hat hlt how)
              have hMc := hid_e (hMb.out.setN (.slice (some ⟨gn, 0, none⟩) (ns.length + 1) cN))
              have hRc := hid_e (RT.keep (S := fun j => w.heap.size ≤ j) hRb.out ((Fr.refl _ Wn).set ⟨w.heap.size + 1, 3, none⟩ (.slice (some ⟨gn, 0, none⟩) (ns.length + 1) cN) (.inl (by show w.heap.size ≤ w.heap.size + 1; omega))) (by omega))
              clear z3 z3a z3b zf3 hMa hMb hRb hgr hM2 hA
              generalize Wn.setCell ⟨w.heap.size + 1, 3, none⟩ (.slice (some ⟨gn, 0, none⟩) (ns.length + 1) cN) = Wc at hMc hRc ⊢
              go_upto_region 19 with fail
              replace hMc := hid_e hMc.out.drew
              have hbx := hMc.out.box
              have hRX := hid_e (RT.keep (S := fun _ => False) hRc.out ((Fr.refl _ Wc).drew) (fun e => e))
              have hcall := hid_e (hval.out q2 Wc.drew (hB.out.keepR hMc.out.fr) hRX.out hq2)
              generalize hX : Wc.drew = X at hMc hbx hRX hcall
              refine wp_region_noPanic ?_
              refine Until.wp_region_U (fun _ => True) (fun W => W.heap[w.heap.size + 1]? = some (.cells #[.int .i64 6, .int .i64 0, .string ⟨#[]⟩, .slice (some ⟨gn, 0, none⟩) (ns.length + 1) cN, .slice ao m ci] 25 (0, 0))) 9 (by kernel_rfl) ?_
              rw [hX]
              clear hX
              refine Until.wpU_pure (i := 0) (oi := { dst := some 75, op := Op.fieldAddr 25 (Operand.tmp 7) 4, type := 0, pos := "ref.go:285", after := #[], guard := none }) (v := .pointer (some ⟨w.heap.size + 1, 4, none⟩)) rfl (by kernel_rfl) (by kernel_rfl) (by kernel_rfl) (by kernel_rfl) (by kernel_rfl) (fun _ _ _ h => h) (trivial) (fun _ => hbx) (by rfl) (by intro w'; go_simp) ?_
              try simp only [Act.put, List.setIfInBounds_toArray, List.set_cons_zero, List.set_cons_succ]
              refine Until.wpU_load1 (i := 1) (oi := { dst := some 76, op := Op.load 23 (Operand.tmp 75), type := 23, pos := "ref.go:285", after := #[{ on := 0, ground := Ground.data }], guard := none }) (v := .slice ao m ci) rfl (by kernel_rfl) (by kernel_rfl) (by kernel_rfl) (by kernel_rfl) (by kernel_rfl) (by kernel_rfl) (fun _ _ _ h => h) (trivial) (hbx) (by rfl) (by intro w' hw'; obtain ⟨t0, t1, t2, t3, t4, -⟩ := row_cells hw'; go_simp) ?_
              try simp only [Act.put, List.setIfInBounds_toArray, List.set_cons_zero, List.set_cons_succ]
              refine Until.wpU_pure (i := 2) (oi := { dst := some 77, op := Op.move (Operand.tmp 0), type := 49, pos := "ref.go:285", after := #[], guard := none }) (v := .pointer (some ⟨r, 0, none⟩)) rfl (by kernel_rfl) (by kernel_rfl) (by kernel_rfl) (by kernel_rfl) (by kernel_rfl) (fun _ _ _ h => h) (trivial) (fun _ => hbx) (by rfl) (by intro w'; go_simp) ?_
              try simp only [Act.put, List.setIfInBounds_toArray, List.set_cons_zero, List.set_cons_succ]
              refine Until.wpU_pure (i := 3) (oi := { dst := some 78, op := Op.move (Operand.tmp 2), type := 3, pos := "ref.go:285", after := #[], guard := none }) (v := .int .i64 (d : Int)) rfl (by kernel_rfl) (by kernel_rfl) (by kernel_rfl) (by kernel_rfl) (by kernel_rfl) (fun _ _ _ h => h) (trivial) (fun _ => hbx) (by rfl) (by intro w'; go_simp) ?_
              try simp only [Act.put, List.setIfInBounds_toArray, List.set_cons_zero, List.set_cons_succ]
              refine Until.wpU_pure (i := 4) (oi := { dst := some 79, op := Op.binOp BinOp.add 3 (Operand.tmp 78) (Operand.const (Value.int IntKind.i64 1)) 3, type := 3, pos := "ref.go:285", after := #[{ on := 3, ground := Ground.data }], guard := none }) (v := .int .i64 ((d : Int) + 1)) rfl (by kernel_rfl) (by kernel_rfl) (by kernel_rfl) (by kernel_rfl) (by kernel_rfl) (fun _ _ _ h => h) (trivial) (fun _ => hbx) (by rfl) (by intro w'; go_simp) ?_
              try simp only [Act.put, List.setIfInBounds_toArray, List.set_cons_zero, List.set_cons_succ]
              refine Until.wpU_ready (rs := [5]) (by kernel_rfl) (by simp) ?_
              refine (Until.AllU.cons (o := { dst := some 80, op := Op.call { callee := Callee.value (Operand.func 18), args := #[Operand.tmp 77, Operand.tmp 79], argTypes := #[49, 3] }, type := 25, pos := "ref.go:285", after := #[{ on := 2, ground := Ground.data }, { on := 4, ground := Ground.data }], guard := none }) rfl (fun K hK => ?_) Until.AllU.nil)
              go_simp
              refine hcall.out.mono ?_
              rintro e3 w3 ⟨k2, x2, s2, an2, ln2, cn2, ai2, li2, ci2, rfl, hsn, hS3, hF3⟩
              have hM3 := hid_e (hMc.out.next hF3)
              have hM3r : Hid (∀ u q, val q2 = .ok u q → QM w r 6 (.slice (some ⟨gn, 0, none⟩) (ns.length + 1) cN) (.slice ao m ci) (.slice (some ⟨gn, 0, none⟩) (ns.length + 1) cN) (.slice ao m ci) (ns.length + 1) (strs ns ++ [.string sn]) m xI (its ++ [u]) (xI ++ five k2 x2 s2 (.slice an2 ln2 cn2) (.slice ai2 li2 ci2)) w3) := fun u q e => hMc.out.read hF3 (hsn u q e) rfl
              clear hsn
              have b3 := hM3.out.box
              refine hK.out _ _ trivial (fun _ => b3) ?_
              clear hK K hcall hbx hRX
              try simp only [Act.put, List.setIfInBounds_toArray, List.set_cons_zero, List.set_cons_succ]
              refine Until.wpU_ready (rs := [6]) (by kernel_rfl) (by simp) ?_
              refine (Until.AllU.cons (o := { dst := some 81, op := Op.buildSlice 23 1 #[(0, Operand.tmp 80)], type := 23, pos := "ref.go:285", after := #[{ on := 5, ground := Ground.data }], guard := none }) rfl (fun K hK => ?_) Until.AllU.nil)
              go_simp
              have hM4 := hid_e (hM3.out.alloc (.cells #[.int .i64 k2, .int .i64 x2, .string s2, .slice an2 ln2 cn2, .slice ai2 li2 ci2] 25))
              have hM4r : Hid (∀ u q, val q2 = .ok u q → QM w r 6 (.slice (some ⟨gn, 0, none⟩) (ns.length + 1) cN) (.slice ao m ci) (.slice (some ⟨gn, 0, none⟩) (ns.length + 1) cN) (.slice ao m ci) (ns.length + 1) (strs ns ++ [.string sn]) m xI (its ++ [u]) (xI ++ five k2 x2 s2 (.slice an2 ln2 cn2) (.slice ai2 li2 ci2)) (w3.alloc (.cells #[.int .i64 k2, .int .i64 x2, .string s2, .slice an2 ln2 cn2, .slice ai2 li2 ci2] 25))) := fun u q e => (hM3r.out u q e).alloc _
              have nb := heap_alloc_new w3 (.cells #[.int .i64 k2, .int .i64 x2, .string s2, .slice an2 ln2 cn2, .slice ai2 li2 ci2] 25)
              have hS4 : Hid (RSt (w3.alloc (.cells #[.int .i64 k2, .int .i64 x2, .string s2, .slice an2 ln2 cn2, .slice ai2 li2 ci2] 25)) r a c l.length (val q2)) := hS3.keep ((Fr.refl _ w3).alloc _)
              have b4 := hM4.out.box
              refine hK.out _ _ trivial (fun _ => b4) ?_
              clear hK K
              try simp only [Act.put, List.setIfInBounds_toArray, List.set_cons_zero, List.set_cons_succ]
              generalize w3.alloc (.cells #[.int .i64 k2, .int .i64 x2, .string s2, .slice an2 ln2 cn2, .slice ai2 li2 ci2] 25) = Y4 at hM4 hM4r nb b4 hS4 ⊢
              replace nb := hid_e nb
              refine Until.wpU_ready (rs := [7]) (by kernel_rfl) (by simp) ?_
              refine (Until.AllU.cons (o := { dst := some 82, op := Op.call { callee := Callee.builtin Builtin.append, args := #[Operand.tmp 76, Operand.tmp 81], argTypes := #[23, 23] }, type := 23, pos := "ref.go:285", after := #[{ on := 1, ground := Ground.data }, { on := 6, ground := Ground.data }, { on := 5, ground := Ground.chain }], guard := none }) rfl (fun K hK => ?_) Until.AllU.nil)
              refine step_append_lies _ (by rfl) _ _ 23 (by rfl) (w.heap.size + 2) 25 i0 _ 5 80 Tryd.underlying23 hi hz0 hz1 hz2 (by rfl) (by omega) _ m xI (by rfl) hM4.out.items _ 1 1 [.int .i64 k2, .int .i64 x2, .string s2, .slice an2 ln2 cn2, .slice ai2 li2 ci2] (by rfl) (by rfl) (World.news_of_block nb.out) (five_one _ _ _ _ _ _ _ _ _) (by omega) (by unfold maxLen; omega) (by omega) hM4.out.size _ rfl ?_
              intro gi cI Y5 how hgr hat hlt
              have hM5 := hid_e (hM4.out.growI hgr hat how)
              have hM5r : Hid (∀ u q, val q2 = .ok u q → QM w r 6 (.slice (some ⟨gn, 0, none⟩) (ns.length + 1) cN) (.slice ao m ci) (.slice (some ⟨gn, 0, none⟩) (ns.length + 1) cN) (.slice (some ⟨gi, 0, none⟩) (m + 1) cI) (ns.length + 1) (strs ns ++ [.string sn]) (m + 1) (xI ++ five k2 x2 s2 (.slice an2 ln2 cn2) (.slice ai2 li2 ci2)) (its ++ [u]) (xI ++ five k2 x2 s2 (.slice an2 ln2 cn2) (.slice ai2 li2 ci2)) Y5) := fun u q e => (hM4r.out u q e).growI hgr hat how
              have hne : ∀ g, (Value.slice ao m ci).ownBlock = some g → w.heap.size ≤ g := fun g e => by have := (ownsRow_ge hM4.out.items e).1; omega
              have hFr5 : Fr (fun j => w.heap.size ≤ j) Y4 Y5 := (Fr.refl _ Y4).grown hgr (fun g hg => .inl (hne g hg))
              have hS5 : Hid (RSt Y5 r a c l.length (val q2)) := hS4.out.keepF hFr5 (by omega)
              have b5 := hM5.out.box
              clear how hgr hat hlt hne hFr5
              refine hK.out _ _ trivial (fun _ => b5) ?_
              clear hK K
              try simp only [Act.put, List.setIfInBounds_toArray, List.set_cons_zero, List.set_cons_succ]
              refine Until.wpU_pure (i := 8) (oi := { dst := some 83, op := Op.fieldAddr 25 (Operand.tmp 7) 4, type := 0, pos := "ref.go:285", after := #[{ on := 0, ground := Ground.phase }, { on := 1, ground := Ground.phase }, { on := 2, ground := Ground.phase }, { on := 3, ground := Ground.phase }, { on := 4, ground := Ground.phase }, { on := 5, ground := Ground.phase }, { on := 6, ground := Ground.phase }, { on := 7, ground := Ground.phase }], guard := none }) (v := .pointer (some ⟨w.heap.size + 1, 4, none⟩)) rfl (by kernel_rfl) (by kernel_rfl) (by kernel_rfl) (by kernel_rfl) (by kernel_rfl) (fun _ _ _ h => h) (trivial) (fun _ => b5) (by rfl) (by intro w'; go_simp) ?_
              try simp only [Act.put, List.setIfInBounds_toArray, List.set_cons_zero, List.set_cons_succ]
              obtain ⟨-, -, -, -, z4, zf⟩ := row_cells b5
              have zf4 := zf 4
              clear zf
              refine Until.wpU_ready (rs := [9]) (by kernel_rfl) (by simp) ?_
              refine (Until.AllU.cons (o := { dst := none, op := Op.store 23 (Operand.tmp 83) (Operand.tmp 82), type := 0, pos := "ref.go:285", after := #[{ on := 8, ground := Ground.data }, { on := 7, ground := Ground.data }, { on := 7, ground := Ground.chain }, { on := 0, ground := Ground.phase }, { on := 1, ground := Ground.phase }, { on := 2, ground := Ground.phase }, { on := 3, ground := Ground.phase }, { on := 4, ground := Ground.phase }, { on := 5, ground := Ground.phase }, { on := 6, ground := Ground.phase }, { on := 7, ground := Ground.phase }], guard := none }) rfl (fun K hK => ?_) Until.AllU.nil)
              go_simp
              have hM6 := hid_e (hM5.out.setI (.slice (some ⟨gi, 0, none⟩) (m + 1) cI)).blind
              have hFr6 : Fr (fun j => w.heap.size ≤ j) Y5 (Y5.setCell ⟨w.heap.size + 1, 4, none⟩ (.slice (some ⟨gi, 0, none⟩) (m + 1) cI)) := (Fr.refl _ Y5).set _ _ (.inl (by show w.heap.size ≤ w.heap.size + 1; omega))
              have hM6r : Hid (∀ u q, val q2 = .ok u q → QM w r 6 (.slice (some ⟨gn, 0, none⟩) (ns.length + 1) cN) (.slice (some ⟨gi, 0, none⟩) (m + 1) cI) (.slice (some ⟨gn, 0, none⟩) (ns.length + 1) cN) (.slice (some ⟨gi, 0, none⟩) (m + 1) cI) (ns.length + 1) (strs ns ++ [.string sn]) (m + 1) (xI ++ five k2 x2 s2 (.slice an2 ln2 cn2) (.slice ai2 li2 ci2)) (its ++ [u]) (xI ++ five k2 x2 s2 (.slice an2 ln2 cn2) (.slice ai2 li2 ci2)) (Y5.setCell ⟨w.heap.size + 1, 4, none⟩ (.slice (some ⟨gi, 0, none⟩) (m + 1) cI))) := fun u q e => (hM5r.out u q e).setI _
              have hS6 : Hid (RSt (Y5.setCell ⟨w.heap.size + 1, 4, none⟩ (.slice (some ⟨gi, 0, none⟩) (m + 1) cI)) r a c l.length (val q2)) := hS5.out.keepF hFr6 (by omega)
              refine hK.out _ _ trivial (fun h => absurd h (by decide)) ?_
              clear hK K z4 zf4 b3 b4 b5 hFr6
              try simp only [Act.put, List.setIfInBounds_toArray, List.set_cons_zero, List.set_cons_succ]
              refine Until.wpU_done (by kernel_rfl) ?_ _
              refine NoPanic.normal ?_
              go_wp2_with fail
              go_roundg g'
              case measure => omega
              case rel =>
                have eN : (ns ++ [sn]).length = ns.length + 1 := by simp
                rw [← strs_snoc] at hM6 hM6r
                rw [← eN] at hM6 hM6r
                cases hV : val q2 with
                | no e q3 =>
                  rw [hV] at hS6
                  obtain ⟨he, qd, hRd⟩ := hS6.out
                  refine ⟨ns ++ [sn], m + 1, _, some ⟨gn, 0, none⟩, cN, some ⟨gi, 0, none⟩, cI, hM6, .inr ⟨qd, e, q3, he, hid_e ?_, hid_e hRd⟩⟩
                  rw [← hKv.out, hV]
                | ok u q3 =>
                  rw [hV] at hS6
                  obtain ⟨hq31, hq32⟩ := hle.out q2 u q3 hV
                  refine ⟨ns ++ [sn], m + 1, xI ++ five k2 x2 s2 (.slice an2 ln2 cn2) (.slice ai2 li2 ci2), some ⟨gn, 0, none⟩, cN, some ⟨gi, 0, none⟩, cI, hM6, .inl ⟨q3, its ++ [u], hq32, by omega, ?_, by omega, ?_, hS6, hid_e (hM6r.out u q3 hV), hid_e ?_⟩⟩
                  · rw [List.length_append, him]; rfl
                  · exact hid_e (by rw [eN]; have := hnm.out; omega)
                  · rw [← hKv.out, hV]
          · have hRe : Hid (R = .no 16 fr0) := by rw [Hid, ← hK.out, objR, hmr.out, hfr0.out]; simp only [if_pos]; rw [hT]; simp only; rw [if_pos hhas.out]
            have he : (16 : Int) ≠ 0 := by decide
            obtain ⟨-, -, y2, -, -⟩ := hA.out.cells
            clear hK hmr hT hhas
            obtain ⟨-, -, -, z3, -, -⟩ := row_cells hM2.out.box
            have hMa := hid_e (hM2.out.alloc (.cells #[.string sn] 9))
            obtain ⟨-, -, -, z3a, -, -⟩ := row_cells hMa.out.box
            go_upto_region 18 with fail
            go_wp2_with (at_builtin; refine wpList_append_lies _ rfl _ _ 22 rfl (w.heap.size + 2) 9 i9 _ 1 16 Tryd.underlying22 hi9 hy0 hy1 hy2 rfl (by decide) _ ns.length (strs ns) rfl hMa.out.names _ 1 1 [.string sn] rfl rfl (World.news_of_block (heap_alloc_new wr (.cells #[.string sn] 9))) (str_one _) (by decide) (by unfold maxLen; omega) (by omega) hMa.out.size _ rfl ?_; intro gn cN Wn how hgr hat hlt; have hMb := hid_e (hMa.out.growN hgr hat how); obtain ⟨-, -, -, z3b, -, zfb⟩ := row_cells hMb.out.box; have zf3 := zfb 3; clear zfb; have hRb := hid_e (RT.keep (S := fun j => w.heap.size ≤ j) (RT.keep (S := fun _ => False) hA.out ((Fr.refl _ wr).alloc (.cells #[.string sn] 9)) (fun e => e)) ((Fr.refl _ _).grown hgr (fun g hg => .inl (by have := (ownsRow_ge hMa.out.names hg).1; omega))) (by omega)); replace hgr := hid_e hgr; clear hat hlt how)
            have hMc := hid_e (hMb.out.setN (.slice (some ⟨gn, 0, none⟩) (ns.length + 1) cN))
            have hRc := hid_e (RT.keep (S := fun j => w.heap.size ≤ j) hRb.out ((Fr.refl _ Wn).set ⟨w.heap.size + 1, 3, none⟩ (.slice (some ⟨gn, 0, none⟩) (ns.length + 1) cN) (.inl (by show w.heap.size ≤ w.heap.size + 1; omega))) (by omega))
            clear z3 z3a z3b zf3 hMa hMb hRb hgr hM2 hA
            generalize Wn.setCell ⟨w.heap.size + 1, 3, none⟩ (.slice (some ⟨gn, 0, none⟩) (ns.length + 1) cN) = Wc at hMc hRc ⊢
            go_upto_region 19 with fail
            replace hMc := hid_e hMc.out.drew
            have hbx := hMc.out.box
            have hRX := hid_e (RT.keep (S := fun _ => False) hRc.out ((Fr.refl _ Wc).drew) (fun e => e))
            have hcall := hid_e (dval_dead r a c l.length _ _ _ ((d : Int) + 1) Wc.drew hRX.out he)
            generalize hX : Wc.drew = X at hMc hbx hRX hcall
            refine wp_region_noPanic ?_
            refine Until.wp_region_U (fun _ => True) (fun W => W.heap[w.heap.size + 1]? = some (.cells #[.int .i64 6, .int .i64 0, .string ⟨#[]⟩, .slice (some ⟨gn, 0, none⟩) (ns.length + 1) cN, .slice ao m ci] 25 (0, 0))) 9 (by kernel_rfl) ?_
            rw [hX]
            clear hX
            refine Until.wpU_pure (i := 0) (oi := { dst := some 75, op := Op.fieldAddr 25 (Operand.tmp 7) 4, type := 0, pos := "ref.go:285", after := #[], guard := none }) (v := .pointer (some ⟨w.heap.size + 1, 4, none⟩)) rfl (by kernel_rfl) (by kernel_rfl) (by kernel_rfl) (by kernel_rfl) (by kernel_rfl) (fun _ _ _ h => h) (trivial) (fun _ => hbx) (by rfl) (by intro w'; go_simp) ?_
            try simp only [Act.put, List.setIfInBounds_toArray, List.set_cons_zero, List.set_cons_succ]
            refine Until.wpU_load1 (i := 1) (oi := { dst := some 76, op := Op.load 23 (Operand.tmp 75), type := 23, pos := "ref.go:285", after := #[{ on := 0, ground := Ground.data }], guard := none }) (v := .slice ao m ci) rfl (by kernel_rfl) (by kernel_rfl) (by kernel_rfl) (by kernel_rfl) (by kernel_rfl) (by kernel_rfl) (fun _ _ _ h => h) (trivial) (hbx) (by rfl) (by intro w' hw'; obtain ⟨t0, t1, t2, t3, t4, -⟩ := row_cells hw'; go_simp) ?_
            try simp only [Act.put, List.setIfInBounds_toArray, List.set_cons_zero, List.set_cons_succ]
            refine Until.wpU_pure (i := 2) (oi := { dst := some 77, op := Op.move (Operand.tmp 0), type := 49, pos := "ref.go:285", after := #[], guard := none }) (v := .pointer (some ⟨r, 0, none⟩)) rfl (by kernel_rfl) (by kernel_rfl) (by kernel_rfl) (by kernel_rfl) (by kernel_rfl) (fun _ _ _ h => h) (trivial) (fun _ => hbx) (by rfl) (by intro w'; go_simp) ?_
            try simp only [Act.put, List.setIfInBounds_toArray, List.set_cons_zero, List.set_cons_succ]
            refine Until.wpU_pure (i := 3) (oi := { dst := some 78, op := Op.move (Operand.tmp 2), type := 3, pos := "ref.go:285", after := #[], guard := none }) (v := .int .i64 (d : Int)) rfl (by kernel_rfl) (by kernel_rfl) (by kernel_rfl) (by kernel_rfl) (by kernel_rfl) (fun _ _ _ h => h) (trivial) (fun _ => hbx) (by rfl) (by intro w'; go_simp) ?_
            try simp only [Act.put, List.setIfInBounds_toArray, List.set_cons_zero, List.set_cons_succ]
            refine Until.wpU_pure (i := 4) (oi := { dst := some 79, op := Op.binOp BinOp.add 3 (Operand.tmp 78) (Operand.const (Value.int IntKind.i64 1)) 3, type := 3, pos := "ref.go:285", after := #[{ on := 3, ground := Ground.data }], guard := none }) (v := .int .i64 ((d : Int) + 1)) rfl (by kernel_rfl) (by kernel_rfl) (by kernel_rfl) (by kernel_rfl) (by kernel_rfl) (fun _ _ _ h => h) (trivial) (fun _ => hbx) (by rfl) (by intro w'; go_simp) ?_
            try simp only [Act.put, List.setIfInBounds_toArray, List.set_cons_zero, List.set_cons_succ]
            refine Until.wpU_ready (rs := [5]) (by kernel_rfl) (by simp) ?_
            refine (Until.AllU.cons (o := { dst := some 80, op := Op.call { callee := Callee.value (Operand.func 18), args := #[Operand.tmp 77, Operand.tmp 79], argTypes := #[49, 3] }, type := 25, pos := "ref.go:285", after := #[{ on := 2, ground := Ground.data }, { on := 4, ground := Ground.data }], guard := none }) rfl (fun K hK => ?_) Until.AllU.nil)
            go_simp
            refine hcall.out.mono ?_
            rintro e3 w3 ⟨rfl, hF3, hR3⟩
            have hM3 := hid_e (hMc.out.next hF3)
            have b3 := hM3.out.box
            refine hK.out _ _ trivial (fun _ => b3) ?_
            clear hK K hcall hbx hRX
            try simp only [Act.put, List.setIfInBounds_toArray, List.set_cons_zero, List.set_cons_succ]
            refine Until.wpU_ready (rs := [6]) (by kernel_rfl) (by simp) ?_
            refine (Until.AllU.cons (o := { dst := some 81, op := Op.buildSlice 23 1 #[(0, Operand.tmp 80)], type := 23, pos := "ref.go:285", after := #[{ on := 5, ground := Ground.data }], guard := none }) rfl (fun K hK => ?_) Until.AllU.nil)
            go_simp
            have hM4 := hid_e (hM3.out.alloc (.cells #[.int .i64 0, .int .i64 0, .string ⟨#[]⟩, .slice none 0 0, .slice none 0 0] 25))
            have nb := heap_alloc_new w3 (.cells #[.int .i64 0, .int .i64 0, .string ⟨#[]⟩, .slice none 0 0, .slice none 0 0] 25)
            have hR4 := hid_e (hR3.keep (S := fun _ => False) ((Fr.refl _ w3).alloc (.cells #[.int .i64 0, .int .i64 0, .string ⟨#[]⟩, .slice none 0 0, .slice none 0 0] 25)) (fun e => e))
            have b4 := hM4.out.box
            refine hK.out _ _ trivial (fun _ => b4) ?_
            clear hK K
            try simp only [Act.put, List.setIfInBounds_toArray, List.set_cons_zero, List.set_cons_succ]
            generalize w3.alloc (.cells #[.int .i64 0, .int .i64 0, .string ⟨#[]⟩, .slice none 0 0, .slice none 0 0] 25) = Y4 at hM4  nb b4 hR4 ⊢
            replace nb := hid_e nb
            refine Until.wpU_ready (rs := [7]) (by kernel_rfl) (by simp) ?_
            refine (Until.AllU.cons (o := { dst := some 82, op := Op.call { callee := Callee.builtin Builtin.append, args := #[Operand.tmp 76, Operand.tmp 81], argTypes := #[23, 23] }, type := 23, pos := "ref.go:285", after := #[{ on := 1, ground := Ground.data }, { on := 6, ground := Ground.data }, { on := 5, ground := Ground.chain }], guard := none }) rfl (fun K hK => ?_) Until.AllU.nil)
            refine step_append_lies _ (by rfl) _ _ 23 (by rfl) (w.heap.size + 2) 25 i0 _ 5 80 Tryd.underlying23 hi hz0 hz1 hz2 (by rfl) (by omega) _ m xI (by rfl) hM4.out.items _ 1 1 [.int .i64 0, .int .i64 0, .string ⟨#[]⟩, .slice none 0 0, .slice none 0 0] (by rfl) (by rfl) (World.news_of_block nb.out) (five_one _ _ _ _ _ _ _ _ _) (by omega) (by unfold maxLen; omega) (by omega) hM4.out.size _ rfl ?_
            intro gi cI Y5 how hgr hat hlt
            have hM5 := hid_e (hM4.out.growI hgr hat how)
            have hne : ∀ g, (Value.slice ao m ci).ownBlock = some g → w.heap.size ≤ g := fun g e => by have := (ownsRow_ge hM4.out.items e).1; omega
            have hFr5 : Fr (fun j => w.heap.size ≤ j) Y4 Y5 := (Fr.refl _ Y4).grown hgr (fun g hg => .inl (hne g hg))
            have hR5 := hid_e (hR4.out.keep hFr5 (by omega))
            have b5 := hM5.out.box
            clear how hgr hat hlt hne hFr5
            refine hK.out _ _ trivial (fun _ => b5) ?_
            clear hK K
            try simp only [Act.put, List.setIfInBounds_toArray, List.set_cons_zero, List.set_cons_succ]
            refine Until.wpU_pure (i := 8) (oi := { dst := some 83, op := Op.fieldAddr 25 (Operand.tmp 7) 4, type := 0, pos := "ref.go:285", after := #[{ on := 0, ground := Ground.phase }, { on := 1, ground := Ground.phase }, { on := 2, ground := Ground.phase }, { on := 3, ground := Ground.phase }, { on := 4, ground := Ground.phase }, { on := 5, ground := Ground.phase }, { on := 6, ground := Ground.phase }, { on := 7, ground := Ground.phase }], guard := none }) (v := .pointer (some ⟨w.heap.size + 1, 4, none⟩)) rfl (by kernel_rfl) (by kernel_rfl) (by kernel_rfl) (by kernel_rfl) (by kernel_rfl) (fun _ _ _ h => h) (trivial) (fun _ => b5) (by rfl) (by intro w'; go_simp) ?_
            try simp only [Act.put, List.setIfInBounds_toArray, List.set_cons_zero, List.set_cons_succ]
            obtain ⟨-, -, -, -, z4, zf⟩ := row_cells b5
            have zf4 := zf 4
            clear zf
            refine Until.wpU_ready (rs := [9]) (by kernel_rfl) (by simp) ?_
            refine (Until.AllU.cons (o := { dst := none, op := Op.store 23 (Operand.tmp 83) (Operand.tmp 82), type := 0, pos := "ref.go:285", after := #[{ on := 8, ground := Ground.data }, { on := 7, ground := Ground.data }, { on := 7, ground := Ground.chain }, { on := 0, ground := Ground.phase }, { on := 1, ground := Ground.phase }, { on := 2, ground := Ground.phase }, { on := 3, ground := Ground.phase }, { on := 4, ground := Ground.phase }, { on := 5, ground := Ground.phase }, { on := 6, ground := Ground.phase }, { on := 7, ground := Ground.phase }], guard := none }) rfl (fun K hK => ?_) Until.AllU.nil)
            go_simp
            have hM6 := hid_e (hM5.out.setI (.slice (some ⟨gi, 0, none⟩) (m + 1) cI)).blind
            have hFr6 : Fr (fun j => w.heap.size ≤ j) Y5 (Y5.setCell ⟨w.heap.size + 1, 4, none⟩ (.slice (some ⟨gi, 0, none⟩) (m + 1) cI)) := (Fr.refl _ Y5).set _ _ (.inl (by show w.heap.size ≤ w.heap.size + 1; omega))
            have hR6 := hid_e (hR5.out.keep hFr6 (by omega))
            refine hK.out _ _ trivial (fun h => absurd h (by decide)) ?_
            clear hK K z4 zf4 b3 b4 b5 hFr6
            try simp only [Act.put, List.setIfInBounds_toArray, List.set_cons_zero, List.set_cons_succ]
            refine Until.wpU_done (by kernel_rfl) ?_ _
            refine NoPanic.normal ?_
            go_wp2_with fail
            go_roundg g'
            case measure => omega
            case rel =>
              have eN : (ns ++ [sn]).length = ns.length + 1 := by simp
              rw [← strs_snoc] at hM6
              rw [← eN] at hM6
              exact ⟨ns ++ [sn], m + 1, _, some ⟨gn, 0, none⟩, cN, some ⟨gi, 0, none⟩, cI, hM6, .inr ⟨_, _, _, he, hRe, hR6⟩⟩
end Go.Proofs.YtjmneiepcbpdpaaDoor
/-! The document's FromBytes of every bytes. -/
namespace Go.Proofs.YtjmneiepcbpdpaaDoor
open Go Go.RowKit

theorem dval_ok {r : Nat} {a : Option Addr} {c : Nat} {l : List UInt8} : ∀ (n d : Nat), d + n = 64 → RValOk (valR l n) r a c l (d : Int)
  | 0, d, hd => fun q w hB hA hq => by
    rw [valR]
    exact dval_one r a c q d l _ true w (hid_e hB) (hid_e hA) hq (by omega) (by rw [decide_eq_true (by omega)]) (hid_e (fun h => by omega)) (hid_e (fun h => by omega))
  | n + 1, d, hd => fun q w hB hA hq => by
    rw [valR]
    have hv : RValOk (valR l n) r a c l ((d : Int) + 1) := by
      have := dval_ok (r := r) (a := a) (c := c) (l := l) n (d + 1) (by omega)
      rw [show (((d + 1 : Nat) : Int)) = (d : Int) + 1 by omega] at this
      exact this
    have hle : ∀ q t q', valR l n q = .ok t q' → q < q' ∧ q' ≤ l.length := fun q t q' h => by
      have s := val_sound n (d + 1) (by omega) q t q' h
      exact ⟨s.lt, s.le⟩
    exact dval_one r a c q d l _ false w (hid_e hB) (hid_e hA) hq (by omega) (by rw [decide_eq_false (by omega)])
      (hid_e (fun h q' w' hB' hA' hq' => dobj_code r a c q' d l _ w' (hid_e hB') (hid_e hA') hq' h (hid_e hv) (hid_e hle)))
      (hid_e (fun h q' w' hB' hA' hq' => dlist_code r a c q' d l _ w' (hid_e hB') (hid_e hA') hq' h (hid_e hv) (hid_e hle)))
set_option maxHeartbeats 4000000 in
set_option maxRecDepth 100000 in
theorem dfrom_code (a : Option Addr) (c : Nat) (l : List UInt8) (w : World) (hA : Hid (BArg w a c l)) (hlen : l.length ≤ 1000000000) :
    Calls Tryd.prog 12 #[.slice a l.length c] w (OutPost w (fromR l)) := by
  have hFX : Fr (fun _ => False) w ((w.alloc (.cells #[.int .i64 0, .int .i64 0, .string ⟨#[]⟩, .slice none 0 0, .slice none 0 0] 25)).alloc (.cells #[.slice a l.length c, .int .i64 0, .int .i64 0, .int .i64 0] 51)) := ((Fr.refl _ w).alloc _).alloc _
  have n1 := new1 w (.cells #[.int .i64 0, .int .i64 0, .string ⟨#[]⟩, .slice none 0 0, .slice none 0 0] 25) (.cells #[.slice a l.length c, .int .i64 0, .int .i64 0, .int .i64 0] 51)
  have n2 := new2 w (.cells #[.int .i64 0, .int .i64 0, .string ⟨#[]⟩, .slice none 0 0, .slice none 0 0] 25) (.cells #[.slice a l.length c, .int .i64 0, .int .i64 0, .int .i64 0] 51)
  obtain ⟨R, hR⟩ : ∃ R, Hid (fromR l = R) := ⟨_, hid_e rfl⟩
  rw [hR.out]
  go_enter Tryd.func12, Tryd.ntmps12
  go_wp2_with fail
  generalize (w.alloc (.cells #[.int .i64 0, .int .i64 0, .string ⟨#[]⟩, .slice none 0 0, .slice none 0 0] 25)).alloc (.cells #[.slice a l.length c, .int .i64 0, .int .i64 0, .int .i64 0] 51) = X at hFX n1 n2 ⊢
  have hT : RT X (w.heap.size + 1) a c l.length 0 0 0 := n2
  have hBs : RBase X (w.heap.size + 1) a c l := ⟨hT.lt, hA.out.keep (hFX.below (Nat.le_refl _) (fun _ e => e.elim)), fun g o hl e e2 => by
    rcases hA.out.lie with h0 | ⟨g', o', e', hg, -⟩
    · exact hl h0
    · rw [e] at e'; cases e'; omega, hlen⟩
  have hv := hid_e (dval_ok 64 0 rfl 0 X hBs hT (Nat.zero_le _))
  obtain ⟨V, hV⟩ : ∃ V, Hid (valR l 64 0 = V) := ⟨_, hid_e rfl⟩
  rw [hV.out] at hv
  go_fit hv.out
  clear hv
  rintro e1 Y ⟨k2, x2, s2, an2, ln2, cn2, ai2, li2, ci2, rfl, hsn, hS2, hF2⟩
  have hXs : w.heap.size + 1 < X.heap.size := hT.lt
  have n3 := (hF2.block w.heap.size (by omega) (by omega)).trans n1
  have hB2 : Below w.heap.size w Y := (hFX.below (Nat.le_refl _) (fun _ e => e.elim)).trans (hF2.below (by omega) (fun i e => by omega))
  have hYs := hF2.size
  have n4 := (Below.heap_alloc Y (.cells #[.int .i64 k2, .int .i64 x2, .string s2, .slice an2 ln2 cn2, .slice ai2 li2 ci2] 25) w.heap.size (by omega)).trans n3
  have q4 := heap_alloc_new Y (.cells #[.int .i64 k2, .int .i64 x2, .string s2, .slice an2 ln2 cn2, .slice ai2 li2 ci2] 25)
  have hS4 : RSt (Y.alloc (.cells #[.int .i64 k2, .int .i64 x2, .string s2, .slice an2 ln2 cn2, .slice ai2 li2 ci2] 25)) (w.heap.size + 1) a c l.length V := hS2.keep ((Fr.refl _ Y).alloc _)
  have hB4 := hB2.alloc (by omega) (.cells #[.int .i64 k2, .int .i64 x2, .string s2, .slice an2 ln2 cn2, .slice ai2 li2 ci2] 25)
  have hsa := fun t q (e : V = .ok t q) => (hsn t q e).keep ((Below.refl _ Y).alloc (Nat.le_refl _) (.cells #[.int .i64 k2, .int .i64 x2, .string s2, .slice an2 ln2 cn2, .slice ai2 li2 ci2] 25))
  clear n1 n2 hT hBs hS2 hsn n3 hB2 hF2 hFX hA
  go_upto_region 3 with fail
  obtain ⟨B, hBe⟩ : ∃ z, Hid (Y.heap.size = z) := ⟨_, hid_e rfl⟩
  rw [hBe.out] at q4 ⊢
  generalize Y.alloc (.cells #[.int .i64 k2, .int .i64 x2, .string s2, .slice an2 ln2 cn2, .slice ai2 li2 ci2] 25) = Z at n4 q4 hS4 hB4 hsa ⊢
  cases V with
  | no e q =>
    obtain ⟨he0, qd, hRd⟩ := hS4
    have he : (e == 0) = false := by simpa using he0
    have he' : (e != 0) = true := by simpa using he0
    have hRe : Hid (R = .no e q) := by rw [Hid, ← hR.out]; unfold fromR; rw [hV.out]
    obtain ⟨z0, z1, z2, z3, z4, zf⟩ := row_cells n4
    have zf0 := zf 0; have zf1 := zf 1; have zf2 := zf 2; have zf3 := zf 3; have zf4 := zf 4
    clear zf
    obtain ⟨-, u1, u2, u3, -⟩ := hRd.cells
    go_wp2_with fail
    go_region
    all_goals
      go_wp2_with fail
      have hr5 := put5_cells n4 (.int .i64 0) (.int .i64 0) (.string ⟨#[]⟩) (.slice none 0 0) (.slice none 0 0)
      have r0 := hr5 0; have r1 := hr5 1; have r2 := hr5 2; have r3 := hr5 3; have r4 := hr5 4
      clear hr5
      refine bodyPost_ret (v := .tuple #[.agg #[.int .i64 0, .int .i64 0, .string ⟨#[]⟩, .slice none 0 0, .slice none 0 0], .int .i64 e, .int .i64 (q : Int)]) (by simp [results, Tryd.results12, go_sem, r0, r1, r2, r3, r4]) rfl ?_
      rw [hRe.out]
      exact ⟨_, _, _, _, _, _, _, _, _, rfl, seen_flat _ _ _ _ _, below_drew (hB4.trans (put5_below (Nat.le_refl _) _ _ _ _ _))⟩
  | ok t q =>
    have hql := (val_sound 64 0 rfl 0 t q hV.out).le
    replace hS4 : RT Z (w.heap.size + 1) a c l.length q 0 0 := hS4
    by_cases hq : q < l.length
    · have hq1 : (q : Int) < (l.length : Int) := by omega
      have hRe : Hid (R = .no 4 q) := by rw [Hid, ← hR.out]; unfold fromR; rw [hV.out]; simp only; rw [if_pos hq]
      have hfl := hid_e (fail_code (w.heap.size + 1) a c l.length q q 4 Z hS4)
      obtain ⟨-, u1, u2, u3, -⟩ := hS4.cells
      go_wp2_with fail
      go_fit hfl.out
      clear u1 u2 u3 hfl
      rintro e Z2 ⟨rfl, hR5, hF5⟩
      have n5 := (hF5.block _ (Array.getElem?_eq_some_iff.1 n4).1 (by omega)).trans n4
      have hB5 : Below w.heap.size w Z2 := hB4.trans (hF5.below (by have := hB4.size; omega) (fun i e => by omega))
      clear n4 hB4 hS4 hF5
      obtain ⟨z0, z1, z2, z3, z4, zf⟩ := row_cells n5
      have zf0 := zf 0; have zf1 := zf 1; have zf2 := zf 2; have zf3 := zf 3; have zf4 := zf 4
      clear zf
      obtain ⟨-, u1, u2, u3, -⟩ := hR5.cells
      go_wp2_with fail
      go_region
      all_goals
        go_wp2_with fail
        have hr5 := put5_cells n5 (.int .i64 0) (.int .i64 0) (.string ⟨#[]⟩) (.slice none 0 0) (.slice none 0 0)
        have r0 := hr5 0; have r1 := hr5 1; have r2 := hr5 2; have r3 := hr5 3; have r4 := hr5 4
        clear hr5
        refine bodyPost_ret (v := .tuple #[.agg #[.int .i64 0, .int .i64 0, .string ⟨#[]⟩, .slice none 0 0, .slice none 0 0], .int .i64 4, .int .i64 (q : Int)]) (by simp [results, Tryd.results12, go_sem, r0, r1, r2, r3, r4]) rfl ?_
        rw [hRe.out]
        exact ⟨_, _, _, _, _, _, _, _, _, rfl, seen_flat _ _ _ _ _, below_drew (hB5.trans (put5_below (Nat.le_refl _) _ _ _ _ _))⟩
    · have hq1 : ¬ ((q : Int) < (l.length : Int)) := by omega
      have hRe : Hid (R = .ok t 0) := by rw [Hid, ← hR.out]; unfold fromR; rw [hV.out]; simp only; rw [if_neg hq]
      have hs := hid_e (hsa t q rfl)
      clear hsa
      obtain ⟨-, u1, u2, u3, -⟩ := hS4.cells
      obtain ⟨z0, z1, z2, z3, z4, zf⟩ := row_cells n4
      have zf0 := zf 0; have zf1 := zf 1; have zf2 := zf 2; have zf3 := zf 3; have zf4 := zf 4
      clear zf
      obtain ⟨c0, c1, c2, c3, c4, -⟩ := row_cells q4
      go_wp2_with fail
      have hr5 := put5_cells n4 (.int .i64 k2) (.int .i64 x2) (.string s2) (.slice an2 ln2 cn2) (.slice ai2 li2 ci2)
      have r0 := hr5 0; have r1 := hr5 1; have r2 := hr5 2; have r3 := hr5 3; have r4 := hr5 4
      clear hr5
      refine bodyPost_ret (v := .tuple #[.agg #[.int .i64 k2, .int .i64 x2, .string s2, .slice an2 ln2 cn2, .slice ai2 li2 ci2], .int .i64 0, .int .i64 0]) (by simp [results, Tryd.results12, go_sem, r0, r1, r2, r3, r4]) rfl ?_
      rw [hRe.out]
      exact ⟨_, _, _, _, _, _, _, _, _, rfl, seen_put hs.out (by omega) _ _ _ _ _, hB4.trans (put5_below (Nat.le_refl _) _ _ _ _ _)⟩
end Go.Proofs.YtjmneiepcbpdpaaDoor
