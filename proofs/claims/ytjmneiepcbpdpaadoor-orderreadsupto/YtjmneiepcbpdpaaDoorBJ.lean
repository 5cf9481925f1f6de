import Derived.Test.YtjmneiepcbpdpaaDoorBI
import Derived.Lib.QuoteBits
/-! The reader's texts: the walk. -/
namespace Go.Proofs.YtjmneiepcbpdpaaDoor
open Go Go.RowKit

theorem lie_row {w : World} {g : Nat} {l : List UInt8} (h : RowB w g l) : Lie w g 0 l := fun j b hj => by rw [Nat.zero_add]; exact h.cell hj
theorem zero_lie (w : World) : Lie (w.alloc (.cells #[.int .u8 0] 5)) w.heap.size 0 [0] := fun j b hj => by
  rcases j with _ | j
  · have : (0 : UInt8) = b := by simpa using hj
    subst this
    exact cell_of (heap_alloc_new w _) 0
  · simp at hj
set_option maxHeartbeats 8000000 in
set_option maxRecDepth 100000 in
theorem rtext_code (r g cap p : Nat) (l : List UInt8) (w : World) (hB : Hid (Base w r g cap l)) (h : Hid (At w r g cap l.length p)) (hp : p ≤ l.length) :
    Calls Tryd.prog 26 #[.pointer (some ⟨r, 0, none⟩)] w fun x w' => x = .returned (.tuple #[.string (textR l p).text, .int .i64 (textR l p).code]) ∧ At w' r g cap l.length (textR l p).place ∧ Fr (· = r) w w' := by
  have hlen := hB.out.len
  have hcap := hB.out.capl
  have hrl := hB.out.lt
  have hr3 := hB.out.r3
  obtain ⟨R, hR⟩ : ∃ R, Hid (textR l p = R) := ⟨_, hid_e rfl⟩
  rw [hR.out]
  obtain ⟨y0, y1, yf⟩ := two_cells h.out
  clear y0 yf
  go_enter Tryd.func26, Tryd.ntmps26
  go_wp2_with fail
  go_loopg [5] (l.length + 1) (fun gk kv wr => ∃ (q : Nat) (acc : List UInt8), q ≤ l.length ∧ l.length - q < gk ∧ acc.length ≤ q ∧ Hid (At wr r g cap l.length q) ∧ Hid (Fr (· = r) w wr) ∧ Hid (wr.ownsRow w.heap.size 5 1 kv acc.length (Lib.byteCells acc)) ∧ Hid (textK l p acc q = R))
  case atStart => exact ⟨p, [], hp, by omega, Nat.zero_le _, h, hid_e (Fr.refl _ _), hid_e (World.ownsRow_nil _ _ _ _), hR⟩
  case round =>
    clear y1 h hR
    obtain ⟨q, acc, hq, hgk, hacc, hA, hF, hO, hK⟩ := hrel
    obtain ⟨g', rfl⟩ : ∃ g', gk = g' + 1 := ⟨gk - 1, by omega⟩
    have hB1 := hid_e (hB.out.keepR hF.out)
    obtain ⟨kva, kvc, rfl⟩ := ownsRow_slice hO.out
    obtain ⟨y0, y1, yf⟩ := two_cells hA.out
    have yf1 := yf 1
    clear yf
    have q1 : (q : Int) ≤ (l.length : Int) := by omega
    have q2 : (l.length : Int) ≤ (cap : Int) := by omega
    by_cases hcq : cap - q = 0
    · have hd0 : l.drop q = [] := List.drop_eq_nil_of_le (by omega)
      have hRe : Hid (R = .no 3 l.length) := by rw [Hid, ← hK.out]; exact textK_short (by rw [hd0, scan_nil])
      have hix : ∀ m, Hid (Calls Tryd.prog 44 #[.slice (some ⟨g, 0, none⟩) (l.length - q) (cap - q), .int .u8 0] (wr.drewN m) fun e w' => e = .returned (.int .i64 (-1)) ∧ ∃ k, w' = (wr.drewN m).drewN k) := fun m => hid_e (index_code ⟨g, 0, none⟩ (l.length - q) (cap - q) [] (wr.drewN m) (by simp only [List.length_nil]; omega) (fun i b hb => by simp at hb))
      rw [hcq] at hix
      go_upto_region 3 with fail
      go_big_quiet (first | (go_at_call 44; with_reducible refine Calls.quiet_of (hix _).out))
      clear y0 y1 yf1 hix
      have hA2 : At (wr.drewN nq) r g cap l.length q := hA.out
      have hF2 := hF.out.drewN nq
      generalize wr.drewN nq = X at hA2 hF2 ⊢
      go_wp2_with fail
      go_big_quiet (fail)
      have hA3 : At (X.drewN nq) r g cap l.length q := hA2
      have hF3 := hF2.drewN nq
      generalize X.drewN nq = Y at hA3 hF3 ⊢
      have hsh := hid_e (short_code r g cap l.length q Y hA3)
      go_wp2_with fail
      go_fit hsh.out
      rintro e Z ⟨rfl, h1, h2⟩
      go_wp2_with fail
      go_ret2
      rw [hRe.out]
      exact ⟨rfl, h1, hF3.trans h2⟩
    have hcell : ∀ i b, (l.drop q)[i]? = some b → wr.cell? ((⟨g, q, none⟩ : Addr).add i) = some (.int .u8 (b.toNat : Int)) := fun i b hb => by
      rw [add_off]
      exact hB1.out.row.cell (by rw [← hb, List.getElem?_drop])
    have hix : ∀ m, Hid (Calls Tryd.prog 44 #[.slice (some ⟨g, q, none⟩) (l.length - q) (cap - q), .int .u8 0] (wr.drewN m) fun e w' => e = .returned (.int .i64 (Lib.indexByte (l.drop q) 0)) ∧ ∃ k, w' = (wr.drewN m).drewN k) := fun m => hid_e (index_code ⟨g, q, none⟩ (l.length - q) (cap - q) (l.drop q) (wr.drewN m) (by rw [List.length_drop]) hcell)
    clear hcell
    rcases first_zero (l.drop q) with ⟨i1, i2⟩ | ⟨a, e, e1, e2, e3⟩
    · have hRe : Hid (R = .no 3 l.length) := by rw [Hid, ← hK.out]; exact textK_short i2
      rw [i1] at hix
      go_upto_region 3 with fail
      go_big_quiet (first | (go_at_call 44; with_reducible refine Calls.quiet_of (hix _).out))
      clear y0 y1 yf1 hix
      have hA2 : At (wr.drewN nq) r g cap l.length q := hA.out
      have hF2 := hF.out.drewN nq
      generalize wr.drewN nq = X at hA2 hF2 ⊢
      go_wp2_with fail
      go_big_quiet (fail)
      have hA3 : At (X.drewN nq) r g cap l.length q := hA2
      have hF3 := hF2.drewN nq
      generalize X.drewN nq = Y at hA3 hF3 ⊢
      have hsh := hid_e (short_code r g cap l.length q Y hA3)
      go_wp2_with fail
      go_fit hsh.out
      rintro e Z ⟨rfl, h1, h2⟩
      go_wp2_with fail
      go_ret2
      rw [hRe.out]
      exact ⟨rfl, h1, hF3.trans h2⟩
    rw [e3] at hix
    have hl1 := congrArg List.length e1
    rw [List.length_drop, List.length_append, List.length_cons] at hl1
    have hka : a.length ≤ l.length := by omega
    have k0 : decide ((a.length : Int) < 0) = false := decide_eq_false (by omega)
    have k1 : (q : Int) + (a.length : Int) + 1 ≤ 9223372036854775807 := by omega
    rcases e with _ | ⟨c, f⟩
    · have hRe : Hid (R = .no 3 l.length) := by rw [Hid, ← hK.out]; exact textK_last e1 e2
      have hd : ((q : Int) + (a.length : Int) + 1 == (l.length : Int)) = true := by simp only [List.length_nil] at hl1; simp; omega
      replace hl1 := hid_e hl1
      go_upto_region 3 with fail
      go_big_quiet (first | (go_at_call 44; with_reducible refine Calls.quiet_of (hix _).out))
      clear y0 y1 yf1 hix
      have hA2 : At (wr.drewN nq) r g cap l.length q := hA.out
      have hF2 := hF.out.drewN nq
      generalize wr.drewN nq = X at hA2 hF2 ⊢
      obtain ⟨y0, y1, yf⟩ := two_cells hA2
      clear yf
      go_wp2_with fail
      go_big_quiet (fail)
      clear y0 y1
      have hA3 : At (X.drewN nq) r g cap l.length q := hA2
      have hF3 := hF2.drewN nq
      generalize X.drewN nq = Y at hA3 hF3 ⊢
      have hsh := hid_e (short_code r g cap l.length q Y hA3)
      go_wp2_with fail
      go_fit hsh.out
      rintro e Z ⟨rfl, h1, h2⟩
      go_wp2_with fail
      go_ret2
      rw [hRe.out]
      exact ⟨rfl, h1, hF3.trans h2⟩
    · have hd : ((q : Int) + (a.length : Int) + 1 == (l.length : Int)) = false := by simp only [List.length_cons] at hl1; simp; omega
      have hqa : q + a.length + 2 ≤ l.length := by simp only [List.length_cons] at hl1; omega
      replace hl1 := hid_e hl1
      go_upto_region 3 with fail
      go_big_quiet (first | (go_at_call 44; with_reducible refine Calls.quiet_of (hix _).out))
      clear y0 y1 yf1 hix
      have hA2 : At (wr.drewN nq) r g cap l.length q := hA.out
      have hF2 := hF.out.drewN nq
      have hO2 : Hid ((wr.drewN nq).ownsRow w.heap.size 5 1 (.slice kva acc.length kvc) acc.length (Lib.byteCells acc)) := hO
      have hB2 : Hid (Base (wr.drewN nq) r g cap l) := hid_e (hB1.out.keepR ((Fr.refl _ wr).drewN nq))
      generalize wr.drewN nq = X at hA2 hF2 hO2 hB2 ⊢
      obtain ⟨y0, y1, yf⟩ := two_cells hA2
      clear yf
      go_wp2_with fail
      go_big_quiet (fail)
      clear y0 y1
      have hA3 : At (X.drewN nq) r g cap l.length q := hA2
      have hF3 := hF2.drewN nq
      have hO3 : Hid ((X.drewN nq).ownsRow w.heap.size 5 1 (.slice kva acc.length kvc) acc.length (Lib.byteCells acc)) := hO2
      have hB3 : Hid (Base (X.drewN nq) r g cap l) := hid_e (hB2.out.keepR ((Fr.refl _ X).drewN nq))
      generalize X.drewN nq = Y at hA3 hF3 hO3 hB3 ⊢
      clear hA2 hF2 hO2 hB2 hA hF hO hB1
      have hLie : Hid (Lie Y g q a) := hid_e (fun j b hj => by
        refine hB3.out.row.cell ?_
        rw [← List.getElem?_drop, e1, List.getElem?_append_left (List.getElem?_eq_some_iff.1 hj).1]
        exact hj)
      obtain ⟨y0, y1, yf⟩ := two_cells hA3
      clear yf
      have hYs := hF3.size
      clear hd
      obtain ⟨hi, hhi⟩ : ∃ hi : Nat, Hid (q + a.length = hi) := ⟨_, hid_e rfl⟩
      have j0 : (q : Int) + (a.length : Int) = (hi : Int) := by have := hhi.out; omega
      have hi9 : hi ≤ 1000000000 := by have := hhi.out; omega
      have hw : IntKind.i64.wrap (hi : Int) = (hi : Int) := Lib.wrap_i64_small hi (by omega)
      have hcq2 : ¬ cap = q := by omega
      have j3 : q ≤ hi := by have := hhi.out; omega
      have j1 : (q : Int) ≤ (hi : Int) := by omega
      have j2 : (hi : Int) ≤ (cap : Int) := by omega
      go_upto_region 6 with fail
      try simp only [j0]
      go_cut [5] from 40 to 56 (fun v wx => Hid (At wx r g cap l.length q) ∧ Hid (Fr (· = r) w wx) ∧ Hid (wx.ownsRow w.heap.size 5 1 v (acc ++ a).length (Lib.byteCells (acc ++ a))))
      case first =>
        go_region_law (refine step_append_bytes _ rfl _ _ rfl w.heap.size (.slice kva acc.length kvc) acc rfl hO3.out (some ⟨g, q, none⟩) _ (cap - q) a (by have := hhi.out; omega) rfl (.inr ⟨g, q, rfl, hLie.out⟩) (by omega) (by simpa using hYs) ?_; intro kv6 W6 ho6 hg6 hp6)
        all_goals
          go_simp
          go_wp2_with fail
          go_meet
          have hF6 : Fr (· = r) w W6 := hF3.drew.grown hg6 (fun g hg => .inr (ownsRow_ge hO3.out hg).1)
          exact ⟨hid_e ((hg6.block r hA3.lt (fun e => by have := (ownsRow_ge hO3.out e.symm).1; omega)).trans hA3), hid_e hF6, hid_e ho6⟩
      case rest =>
        clear hA3 hF3 hO3 hB3 hLie y0 y1 hYs
        obtain ⟨hA, hF, hO⟩ := hcut
        obtain ⟨B, hAB⟩ : ∃ B, Hid (acc ++ a = B) := ⟨_, hid_e rfl⟩
        have hBl : B.length ≤ l.length := by rw [← hAB.out, List.length_append]; omega
        rw [hAB.out] at hO
        obtain ⟨va6, vc6, rfl⟩ := ownsRow_slice hO.out
        obtain ⟨y0, y1, yf⟩ := two_cells hA.out
        have yf1 := yf 1
        clear yf j0 j1 j2 j3 hw hi9
        obtain ⟨Q, hQ⟩ : ∃ Q : Nat, Hid (q + a.length + 1 = Q) := ⟨_, hid_e rfl⟩
        have s0 : (q : Int) + ((a.length : Int) + 1) = (Q : Int) := by have := hQ.out; omega
        have hQ9 : Q + 1 ≤ l.length := by have := hQ.out; omega
        have hw : IntKind.i64.wrap (Q : Int) = (Q : Int) := Lib.wrap_i64_small Q (by omega)
        have hlQ : l[Q]? = some c := by
          have h1 : (l.drop q)[a.length + 1]? = some c := by rw [e1, List.getElem?_append_right (by omega)]; simp
          rw [List.getElem?_drop] at h1
          rw [← hQ.out]
          exact h1
        have hA2 := hA.out.set Q
        have hF2 := hF.out.set ⟨r, 1, none⟩ (.int .i64 (Q : Int)) (.inl rfl)
        have hO2 := hid_e (ownsRow_keep (w' := wc.setCell ⟨r, 1, none⟩ (.int .i64 (Q : Int))) hO.out (fun g hg => Below.heap_setCell _ _ _ _ (by have := (ownsRow_ge hO.out hg).1; show g ≠ r; omega)))
        go_upto_region 8 with fail
        generalize wc.setCell ⟨r, 1, none⟩ (.int .i64 (Q : Int)) = X at hA2 hF2 hO2 ⊢
        clear y0 y1 yf1 hA hF hO
        have hBX := hB.out.keepR hF2
        have hcc := hBX.row.cell hlQ
        have hu := hid_e hBX.utf
        obtain ⟨y0, y1, yf⟩ := two_cells hA2
        have q3 : (Q : Int) < (l.length : Int) := by omega
        go_big_quiet (fail)
        clear y0 y1 yf hcc
        have hA3 : At (X.drewN nq) r g cap l.length Q := hA2
        have hF3 := hF2.drewN nq
        have hO3 : Hid ((X.drewN nq).ownsRow w.heap.size 5 1 (.slice va6 B.length vc6) B.length (Lib.byteCells B)) := hO2
        have hu3 : Hid (Lib.Utf8Tabs 1 2 (X.drewN nq)) := hu
        generalize X.drewN nq = Y at hA3 hF3 hO3 hu3 ⊢
        clear hA2 hF2 hO2 hBX hu
        by_cases h255 : c = 255
        · obtain ⟨z, hz⟩ : ∃ z, (c.toNat : Int) = z := ⟨_, rfl⟩
          rw [hz]
          obtain rfl : z = 255 := by rw [← hz, h255]; rfl
          clear hz
          rw [h255] at e1
          have hK2 := hid_e ((textK_more (p := p) (acc := acc) e1 e2).symm.trans hK.out)
          rw [show q + a.length + 2 = Q + 1 by have := hQ.out; omega, hAB.out] at hK2
          have hbd : B.length + 1 ≤ maxLen ∧ (B.length + 1) * 1 ≤ 140737488355328 := by unfold maxLen; omega
          obtain ⟨i5, hi5, hz0, hz1, hz2⟩ := info_parts Z5
          have hYs := hF3.size
          clear hlQ h255
          have hA6 : At (Y.alloc (.cells #[.int .u8 0] 5)) r g cap l.length Q := hA3.keep (S := fun _ => False) ((Fr.refl _ Y).alloc _) (fun e => e)
          have hne6 : (Value.slice va6 B.length vc6).ownBlock ≠ some r := fun e => by have := (ownsRow_ge hO3.out e).1; omega
          go_upto_region 11 with fail
          go_wp2_with (at_builtin; refine wpList_append_lies _ rfl _ _ 26 rfl w.heap.size 5 i5 _ 1 1 Tryd.underlying26 hi5 hz0 hz1 hz2 rfl (by decide) _ B.length _ rfl (hO3.out.alloc _) ⟨Y.heap.size, 0, none⟩ 1 1 [.int .u8 0] rfl rfl (World.news_of_block (heap_alloc_new Y (.cells #[.int .u8 0] 5))) (fun u hu => by obtain rfl := List.mem_singleton.1 hu; rfl) (by decide) hbd.1 hbd.2 (by rw [World.size_alloc]; omega) _ rfl ?_; intro ga capa Wa ho hgr hat hlta; have hA7 : At Wa r g cap l.length Q := (World.grownBy.block hgr r hA6.lt (fun e => hne6 e.symm)).trans hA6; obtain ⟨y0, y1, yf⟩ := two_cells hA7; have yf1 := yf 1; clear yf; replace ho := hid_e ho; replace hgr := hid_e hgr; clear hat hlta)
          go_roundg g'
          case measure => omega
          case rel =>
            have hF6 : Fr (· = r) w Wa := (hF3.alloc _).grown hgr.out (fun g hg => .inr (ownsRow_ge hO3.out hg).1)
            have ho' : Wa.ownsRow w.heap.size 5 1 (.slice (some ⟨ga, 0, none⟩) (B ++ [0]).length capa) (B ++ [0]).length (Lib.byteCells (B ++ [0])) := by
              rw [List.length_append, Lib.byteCells_append]
              exact ho.out
            have hs := hA7.set (Q + 1)
            have e1 : ((Q : Int) + 1) = ((Q + 1 : Nat) : Int) := by omega
            rw [e1]
            refine ⟨Q + 1, B ++ [0], by omega, by omega, ?_, hid_e hs, hid_e (hF6.set _ _ (.inl rfl)), hid_e ?_, hid_e ?_⟩
            · rw [List.length_append, ← hAB.out, List.length_append]
              have := hQ.out
              simp only [List.length_cons, List.length_nil]
              omega
            · have := ownsRow_keep (w' := Wa.setCell ⟨r, 1, none⟩ (.int .i64 ((Q + 1 : Nat) : Int))) ho' (fun g hg => Below.heap_setCell _ _ _ _ (by have := (ownsRow_ge ho' hg).1; show g ≠ r; omega))
              rw [List.length_append] at this ⊢
              exact this
            · exact hK2.out
        · by_cases h1 : c = 1
          · subst h1
            have hRe := hid_e (hK.out.symm.trans (textK_end (p := p) (acc := acc) e1 e2))
            have hcl := hid_e (clean_code r g cap Q p l.length w.heap.size (.slice va6 B.length vc6) B Y hA3 (by omega) hrl hO3 hu3)
            have hCR : Hid (cleanR B Q p = R) := by
              rw [Hid, hRe.out]
              unfold cleanR
              rw [show q + a.length + 2 = Q + 1 by have := hQ.out; omega, hAB.out]
            rw [hCR.out] at hcl
            have hbs : (1 : UInt8).toNat = 1 := rfl
            go_wp2_with fail
            go_fit hcl.out
            rintro e Z ⟨rfl, h1, h2⟩
            go_wp2_with fail
            go_ret2
            exact ⟨rfl, h1, hF3.trans h2⟩
          · have hRe := hid_e (hK.out.symm.trans (textK_bad (p := p) (acc := acc) e1 e2 h255 h1))
            rw [hQ.out] at hRe
            have k1 := byte_ne h1
            have k2 := byte_ne h255
            have hfl := hid_e (fault_code r g cap l.length Q Q 30 Y hA3)
            obtain ⟨y0, y1, yf⟩ := two_cells hA3
            clear yf
            obtain ⟨z, hz⟩ : ∃ z, (c.toNat : Int) = z := ⟨_, rfl⟩
            rw [hz] at k1 k2 ⊢
            have k1' : (z == 1) = false := k1
            have k2' : (z == 255) = false := k2
            go_wp2_with fail
            go_fit hfl.out
            rintro e Z ⟨rfl, h1, h2⟩
            go_wp2_with fail
            go_ret2
            rw [hRe.out]
            exact ⟨rfl, h1, hF3.trans h2⟩
end Go.Proofs.YtjmneiepcbpdpaaDoor
