import Derived.Test.YtgjemghfejaifaaGreatDoorSO
import Derived.Deep.RegionHeld3
/-! schema: a schema read. -/
namespace Go.Proofs.YtgjemghfejaifaaGreatDoor
open Go Go.RowKit

theorem AW : (Tryz.prog.info? 84).map (fun i => (i.zero, i.size, i.bytes)) = some (some (.agg #[.string { data := #[] }, .nilIface]), 2, 32) := by kernel_rfl
def ruleN (d n : Nat) (s : ByteArray) (t : Tr) : Nat × Int := if n = 128 then (128, 211) else ruleS d (n + 1) (wordNo s) t
theorem membersS_at {d n : Nat} {ns : List ByteArray} {its : List Tr} {q : Nat} {s : ByteArray} {t : Tr} (hn : ns[q]? = some s) (ht : its[q]? = some t) : membersS d n (ns.drop q) (its.drop q) = if (ruleN d n s t).2 = 0 then membersS d (ruleN d n s t).1 (ns.drop (q + 1)) (its.drop (q + 1)) else ruleN d n s t := by
  have hlt := (List.getElem?_eq_some_iff.1 ht).1
  have hlt' := (List.getElem?_eq_some_iff.1 hn).1
  have e1 : its.drop q = t :: its.drop (q + 1) := by rw [List.drop_eq_getElem_cons hlt, (List.getElem?_eq_some_iff.1 ht).2]
  have e2 : ns.drop q = s :: ns.drop (q + 1) := by rw [List.drop_eq_getElem_cons hlt', (List.getElem?_eq_some_iff.1 hn).2]
  rw [e1, e2, membersS]
  unfold ruleN
  by_cases h : n = 128
  · subst h; simp
  · rw [if_neg h, if_neg h]; rfl
/-- A schema that is being read. -/
structure RuleSt (w : World) (br m : Nat) (ns : List ByteArray) (its : List Tr) (q n : Nat) (a : Option Addr) (c : Nat) (wr : World) : Prop where
  fr : Fr (fun b => b = br) w wr
  rd : ReaderAt wr br m n
  le : n ≤ 128
  row : ∃ xs, Rw wr w.heap.size 2 a q c xs ∧ ∃ S : Nat → Prop, (∀ k, S k → w.heap.size ≤ k ∧ k < wr.heap.size ∧ ¬ blkOf a k) ∧ RulesX wr S xs (ns.take q) (its.take q)
theorem RuleSt.next {w wr w1 w2 : World} {br m q n n1 : Nat} {ns : List ByteArray} {its : List Tr} {s : ByteArray} {t : Tr} {v : Value} {a : Option Addr} {c g o c2 : Nat} {xs : List Value} {o1 : Obj} (h : RuleSt w br m ns its q n a c wr) (hbr : br < w.heap.size) (hRw : Rw (w1.alloc o1) w.heap.size 2 a q c xs) (hx : ∃ S : Nat → Prop, (∀ k, S k → w.heap.size ≤ k ∧ k < wr.heap.size ∧ ¬ blkOf a k) ∧ RulesX wr S xs (ns.take q) (its.take q)) (hl : ns.length = its.length) (hn : ns[q]? = some s) (ht : its[q]? = some t)
    (hF1 : Fr (fun b => b = br) wr w1) (hr1 : ReaderAt w1 br m n1) (hn1 : n1 ≤ 128) (hab : ∀ k, blkOf a k → 0 < c → k < wr.heap.size) (hR : RuleR w1 (fun k => wr.heap.size ≤ k ∧ k < w1.heap.size) (wordNo s) t v)
    (hA : Appd (w1.alloc o1) w.heap.size 2 a q 1 c (xs ++ [.string s, v]) g o c2 w2) : RuleSt w br m ns its (q + 1) n1 (some ⟨g, o, none⟩) c2 w2 := by
  have hs := h.fr.size
  have hs1 := hF1.size
  have hsA : (w1.alloc o1).heap.size = w1.heap.size + 1 := World.size_alloc _ _
  obtain ⟨hg1, hg2⟩ := appd_ge hRw (by decide) (by omega) hA
  have hbk : w2.heap[br]? = (w1.alloc o1).heap[br]? := appd_kept hA (by omega) (by omega)
  obtain ⟨S, hS1, hS2⟩ := hx
  have hlt := (List.getElem?_eq_some_iff.1 ht).1
  refine ⟨?_, ?_, hn1, _, hA.row, fun k => w.heap.size ≤ k ∧ k < w1.heap.size ∧ k ≠ g, ?_, ?_⟩
  · refine (h.fr.trans (hF1.alloc o1)).next hA.fr fun i hi => ?_
    obtain ⟨⟨o', s', e⟩, h2⟩ := hi
    rcases hRw.pt with h0 | ⟨b, o2, e2, h3, -⟩
    · omega
    · rw [e] at e2; cases e2; exact .inr h3
  · exact (hbk.trans (Below.heap_alloc _ _ _ (by omega))).trans hr1
  · rintro k ⟨k1, k2, k3⟩
    have := appd_size hA
    refine ⟨k1, by omega, fun e => ?_⟩
    obtain ⟨o', s', e⟩ := e
    cases e
    exact k3 rfl
  · have hk2 : ∀ k, k < w1.heap.size → k ≠ g → w2.heap[k]? = w1.heap[k]? := fun k hk hne => (appd_kept hA (by omega) hne).trans (Below.heap_alloc _ _ _ hk)
    have e3 : its.take (q + 1) = its.take q ++ [t] := by rw [List.take_add_one, ht]; rfl
    have e4 : ns.take (q + 1) = ns.take q ++ [s] := by rw [List.take_add_one, hn]; rfl
    rw [e3, e4]
    refine RulesX.snoc ?_ (by rw [List.length_take, List.length_take, hl]) ?_
    · refine RuleR.keep (fun k hk _ => hk2 k hk.2 ?_) (fun k hk => ⟨by omega, hk.2, ?_⟩) _ _ _ hR
      all_goals
        intro e
        subst e
        rcases appd_g hA with hb | hb
        · rcases hA.at' with ⟨-, -, h4⟩ | ⟨h4, -, -⟩
          · have := hab _ hb (by omega); omega
          · omega
        · omega
    · refine hS2.keep (fun k hk hlt => ?_) (fun k hk => ?_)
      · obtain ⟨k1, k2, k3⟩ := hS1 k hk
        have hne : k ≠ g := by
          intro e; subst e
          rcases appd_g hA with hb | hb
          · exact k3 hb
          · omega
        exact (hk2 k (by omega) hne).trans (hF1.block k k2 (by show ¬ k = br; omega))
      · obtain ⟨k1, k2, k3⟩ := hS1 k hk
        refine ⟨k1, by omega, fun e => ?_⟩
        subst e
        rcases appd_g hA with hb | hb
        · exact k3 hb
        · omega
theorem RuleSt.fin {w wr : World} {br m q n : Nat} {ns : List ByteArray} {its : List Tr} {a : Option Addr} {c : Nat} (h : RuleSt w br m ns its q n a c wr) (hl : ns.length = its.length) (hq : q = its.length) : RowR wr (fun k => w.heap.size ≤ k ∧ k < wr.heap.size) a ns its := by
  obtain ⟨xs, hR, S, hS, hX⟩ := h.row
  have e1 : ns.take q = ns := by rw [hq, ← hl, List.take_length]
  rw [e1, hq, List.take_length] at hX
  cases its with
  | nil => exact .inl rfl
  | cons t ts =>
    right
    rcases hR.pt with h0 | ⟨b, o, e, h1, h2, h3, h4⟩
    · have := hR.le; simp at hq; omega
    · refine ⟨b, o, e, ⟨h1, h2⟩, RulesX.row (hX.keep (fun _ _ _ => rfl) (fun k hk => ⟨(hS k hk).1, (hS k hk).2.1⟩)) fun j u hj => ?_⟩
      obtain ⟨b', o', e', -, h5⟩ := hR.cell hj
      rw [e] at e'; cases e'
      exact h5
set_option maxHeartbeats 8000000 in
set_option maxRecDepth 100000 in
theorem schema_any (w0 : World) (t : Tr) (hO : Hid (∀ t' ∈ t.items, SchemaOk w0 t' ∧ ∀ t'' ∈ t'.items, SchemaOk w0 t'')) (d n br m : Nat) (u : V5) (w : World) (hd : d ≤ 9) (hn : n ≤ 128) (hV : VRep w0 t u.cs) (hS : Hid (SmallT t)) (hN : Hid (NamesT t)) (hE : Hid (EnvS w0 w br m)) (hR : Hid (ReaderAt w br m n)) :
    Calls Tryz.prog 19 #[.pointer (some ⟨br, 0, none⟩), u.v, .int .i64 (d : Int)] w (SchemaPost w br m d n t) := by
  obtain ⟨ri, hri, hri1, hri2, hri3⟩ := info_parts AW
  have hbr := hid_of hR.out.lt
  have hF0 := hid_of ((Fr.refl (fun b => b = br) w).alloc (u.obj 25))
  have hn0 := heap_alloc_new w (u.obj 25)
  have hE0 := hid_of (hE.out.fr hF0.out)
  have hR0 := hid_of (hR.out.keep ((Below.refl _ _).alloc (Nat.le_refl _) (u.obj 25)))
  obtain ⟨hrow, hli⟩ := rep_row hV
  obtain ⟨hnam, hnl⟩ := rep_names hV
  have hkd := hid_of (vrep_head hV).1
  have hsm := hid_of (small_parts hS.out)
  have hnp := hid_of (names_parts hN.out)
  obtain ⟨N, hNN⟩ : ∃ N, Hid (schemaS d n t = N) := ⟨_, rfl⟩
  replace hrow := hid_of hrow; replace hnam := hid_of hnam; replace hli := hid_of hli; replace hnl := hid_of hnl; replace hV := hid_of hV
  unfold V5.obj at *
  unfold V5.v
  go_enter Tryz.func19, Tryz.ntmps19
  by_cases hk : u.k = 6
  · have hb6 : (u.k != 6) = false := by simp [hk]
    have hk6 : Hid (t.kind = 6) := by rw [Hid, hkd.out]; exact hk
    clear hk hkd
    by_cases hd8 : 8 < d
    · have hb8 : decide ((d : Int) > 8) = true := by simp; omega
      have hfin : Hid (N = (n, 211)) := by rw [Hid, ← hNN.out]; unfold schemaS; rw [if_pos hk6.out, if_pos hd8]
      clear hd8
      go_wp2_with fail
      go_ret2
      refine ⟨hF0.out, ?_, ?_, none, 0, 0, ?_, ?_⟩
      all_goals rw [hNN.out, hfin.out]
      · exact hR0.out
      · exact hn
      · rfl
      · exact fun e => by cases e
    · have hb8 : decide ((d : Int) > 8) = false := by simp; omega
      have hd8' : Hid (d ≤ 8) := by show d ≤ 8; omega
      have hM0 : Hid (membersS d n (t.names.drop 0) (t.items.drop 0) = N) := by
        rw [Hid, ← hNN.out]; unfold schemaS; rw [if_pos hk6.out, if_neg hd8]; rfl
      obtain ⟨x0, x1, x2, x3, x4, -⟩ := row_cells hn0
      have hlN : Hid (t.names.length = t.items.length) := hnp.out.1 hk6.out
      clear hd8
      go_wp2_with fail
      have hX0s : Hid ((w.alloc (.cells #[.int .i64 u.k, .int .i64 u.x, .string u.s, .slice u.an u.ln u.cn, .slice u.ai u.li u.ci] 25)).heap.size = w.heap.size + 1) := World.size_alloc _ _
      generalize w.alloc (.cells #[.int .i64 u.k, .int .i64 u.x, .string u.s, .slice u.an u.ln u.cn, .slice u.ai u.li u.ci] 25) = X0 at *
      replace x0 := hid_of x0; replace x1 := hid_of x1; replace x2 := hid_of x2; replace x3 := hid_of x3; replace x4 := hid_of x4
      clear hn0
      go_loopw [8, 21] (fun l i wr => ∃ (q n' : Nat) (a : Option Addr) (c : Nat), q ≤ t.items.length ∧ i = .int .i64 q ∧ l = .slice a q c ∧ Hid (RuleSt X0 br m t.names t.items q n' a c wr) ∧ Hid (membersS d n' (t.names.drop q) (t.items.drop q) = N)) (fun _ i _ => t.items.length - (intOf i).toNat)
      case atStart => exact ⟨0, n, none, 0, Nat.zero_le _, rfl, rfl, ⟨Fr.refl _ _, hR0.out, hn, [], Rw.nil _ _ _ _, fun _ => False, fun _ h => h.elim, rfl⟩, hM0⟩
      case round =>
        obtain ⟨q, n', a, c, hq, rfl, rfl, hL, hM⟩ := hrel
        by_cases hlt : q < t.items.length
        · obtain ⟨t', ht⟩ : ∃ t', Hid (t.items[q]? = some t') := ⟨_, hid_e (List.getElem?_eq_getElem hlt)⟩
          obtain ⟨s, hs⟩ : ∃ s, Hid (t.names[q]? = some s) := ⟨_, hid_e (List.getElem?_eq_getElem (by rw [hlN.out]; exact hlt))⟩
          have hEr := hid_of (hE0.out.fr hL.out.fr)
          obtain ⟨g, o, hai, hg, hVL⟩ := hrow.out.resolve_left (by intro e; rw [e] at hlt; simp at hlt)
          obtain ⟨cs, hCs, hr⟩ := VRepL.at t.items o q t' hVL ht.out
          obtain ⟨v, rfl⟩ := vrep_v5 hr
          obtain ⟨an', cn', e2, hc, h0⟩ := hnam.out
          simp only [Value.slice.injEq] at e2
          obtain ⟨e3, -, e4⟩ := e2
          obtain ⟨gn, on, e5, hgn, hA⟩ := h0.resolve_left (by intro e; have := hlN.out; rw [e] at this; simp at this; omega)
          rw [← e3] at e5
          have nm0 : wr.cell? ⟨gn, on + q, none⟩ = some (.string s) := (hEr.out.old.cell (p := ⟨gn, on + q, none⟩) hgn).trans (hA q s hs.out)
          have hbb : ¬ w.heap.size = br := by have := hbr.out; omega
          have b0 : wr.drew.cell? ⟨w.heap.size, 0, none⟩ = some (.int .i64 u.k) := hL.out.fr.cell x0.out hbb
          have b1 : wr.drew.cell? ⟨w.heap.size, 1, none⟩ = some (.int .i64 u.x) := hL.out.fr.cell x1.out hbb
          have b2 : wr.drew.cell? ⟨w.heap.size, 2, none⟩ = some (.string u.s) := hL.out.fr.cell x2.out hbb
          have b3 : wr.drew.cell? ⟨w.heap.size, 3, none⟩ = some (.slice u.an u.ln u.cn) := hL.out.fr.cell x3.out hbb
          have b4 : wr.drew.cell? ⟨w.heap.size, 4, none⟩ = some (.slice u.ai u.li u.ci) := hL.out.fr.cell x4.out hbb
          unfold V5.cs five at hCs
          have z0 : wr.drew.cell? ⟨g, o + q * 5 + 0, none⟩ = some (.int .i64 v.k) := (hEr.out.old.cell (p := ⟨g, o + q * 5 + 0, none⟩) hg).trans (hCs 0 _ rfl)
          have z1 : wr.drew.cell? ⟨g, o + q * 5 + 1, none⟩ = some (.int .i64 v.x) := (hEr.out.old.cell (p := ⟨g, o + q * 5 + 1, none⟩) hg).trans (hCs 1 _ rfl)
          have z2 : wr.drew.cell? ⟨g, o + q * 5 + 2, none⟩ = some (.string v.s) := (hEr.out.old.cell (p := ⟨g, o + q * 5 + 2, none⟩) hg).trans (hCs 2 _ rfl)
          have z3 : wr.drew.cell? ⟨g, o + q * 5 + 3, none⟩ = some (.slice v.an v.ln v.cn) := (hEr.out.old.cell (p := ⟨g, o + q * 5 + 3, none⟩) hg).trans (hCs 3 _ rfl)
          have z4 : wr.drew.cell? ⟨g, o + q * 5 + 4, none⟩ = some (.slice v.ai v.li v.ci) := (hEr.out.old.cell (p := ⟨g, o + q * 5 + 4, none⟩) hg).trans (hCs 4 _ rfl)
          simp only [Nat.add_zero] at z0
          have hgb : Hid (¬ g = br) := by have := hEr.out.base; show ¬ g = br; omega
          have hi : (q : Int) < (u.ln : Int) := by have h1 := hnl.out; have h2 := hlN.out; omega
          have hqb : (q : Int) ≤ 1759218604390 := by have := hsm.out.1; omega
          have hi2 : (q : Int) < (u.li : Int) := by have h1 := hli.out; omega
          have hq1 : Hid ((q + 1) ≤ maxLen ∧ (q + 1) * 32 ≤ 140737488355328) := by have := hsm.out.1; refine ⟨?_, ?_⟩; unfold maxLen; omega; omega
          have hot := hO.out t' (List.mem_of_getElem? ht.out)
          have hrule := hid_of (rule_any w0 br m d n' s t' t v u wr.drew ⟨hd8'.out, hL.out.le, hr, SmallL.at hsm.out.2.2.2.1 ht.out, NamesL.at hnp.out.2 ht.out, hEr.out.fr ((Fr.refl _ _).drew), hL.out.rd⟩ hV.out hS.out hot.1 hot.2)
          have hst := hid_of (membersS_at (d := d) (n := n') hs.out ht.out)
          obtain ⟨R, hRR⟩ : ∃ R, Hid (ruleN d n' s t' = R) := ⟨_, rfl⟩
          have hrule2 : Hid (Calls Tryz.prog 43 #[.pointer (some ⟨br, 0, none⟩), .string s, .agg #[.int .i64 v.k, .int .i64 v.x, .string v.s, .slice v.an v.ln v.cn, .slice v.ai v.li v.ci, .int .i64 u.k, .int .i64 u.x, .string u.s, .slice u.an u.ln u.cn, .slice u.ai u.li u.ci, .int .i64 (d : Int)]] wr.drew fun e w' => ∃ v z, e = .returned (.tuple #[v, .int .i64 z]) ∧ RuleQ wr.drew br m R (wordNo s) t' v z w') := by
            rw [← hRR.out]; exact hrule.out
          rw [hRR.out] at hst
          have e5' := hid_of e5
          have hai' := hid_of hai
          rw [hai] at b4
          rw [e5] at b3
          rw [e5, hai] at hrule2
          clear hVL hCs hr h0 hA hc hrule hot hgn hg e3 e4
          replace hbb := hid_of hbb
          rw [e5, hai]
          go_upto_region 9 with fail
          go_region_held3 (fun W => W.cell? ⟨w.heap.size, 0, none⟩ = some (.int .i64 u.k) ∧ W.cell? ⟨w.heap.size, 1, none⟩ = some (.int .i64 u.x) ∧ W.cell? ⟨w.heap.size, 2, none⟩ = some (.string u.s) ∧ W.cell? ⟨w.heap.size, 3, none⟩ = some (.slice (some ⟨gn, on, none⟩) u.ln u.cn) ∧ W.cell? ⟨w.heap.size, 4, none⟩ = some (.slice (some ⟨g, o, none⟩) u.li u.ci) ∧ W.cell? ⟨g, o + q * 5, none⟩ = some (.int .i64 v.k) ∧ W.cell? ⟨g, o + q * 5 + 1, none⟩ = some (.int .i64 v.x) ∧ W.cell? ⟨g, o + q * 5 + 2, none⟩ = some (.string v.s) ∧ W.cell? ⟨g, o + q * 5 + 3, none⟩ = some (.slice v.an v.ln v.cn) ∧ W.cell? ⟨g, o + q * 5 + 4, none⟩ = some (.slice v.ai v.li v.ci)) (go_keep) (first
            | (go_at_call 43; refine hrule2.out.mono ?_; rintro e W1 ⟨r1, z, rfl, hF1, hr1, hn1, hz1, hR1⟩; have b0' : W1.cell? ⟨w.heap.size, 0, none⟩ = some (.int .i64 u.k) := hF1.cell b0 hbb.out; have b1' : W1.cell? ⟨w.heap.size, 1, none⟩ = some (.int .i64 u.x) := hF1.cell b1 hbb.out; have b2' : W1.cell? ⟨w.heap.size, 2, none⟩ = some (.string u.s) := hF1.cell b2 hbb.out; have b3' : W1.cell? ⟨w.heap.size, 3, none⟩ = some (.slice (some ⟨gn, on, none⟩) u.ln u.cn) := hF1.cell b3 hbb.out; have b4' : W1.cell? ⟨w.heap.size, 4, none⟩ = some (.slice (some ⟨g, o, none⟩) u.li u.ci) := hF1.cell b4 hbb.out; have z0' : W1.cell? ⟨g, o + q * 5, none⟩ = some (.int .i64 v.k) := hF1.cell z0 hgb.out; have z1' : W1.cell? ⟨g, o + q * 5 + 1, none⟩ = some (.int .i64 v.x) := hF1.cell z1 hgb.out; have z2' : W1.cell? ⟨g, o + q * 5 + 2, none⟩ = some (.string v.s) := hF1.cell z2 hgb.out; have z3' : W1.cell? ⟨g, o + q * 5 + 3, none⟩ = some (.slice v.an v.ln v.cn) := hF1.cell z3 hgb.out; have z4' : W1.cell? ⟨g, o + q * 5 + 4, none⟩ = some (.slice v.ai v.li v.ci) := hF1.cell z4 hgb.out; replace hF1 := hid_of hF1; replace hr1 := hid_of hr1; replace hn1 := hid_of hn1; replace hz1 := hid_of hz1; replace hR1 := hid_of hR1; clear b0 b1 b2 b3 b4 z0 z1 z2 z3 z4))
          have hfr : Fr (fun b => b = br) wr W1 := ((Fr.refl _ _).drew).trans hF1.out
          clear b0' b1' b2' b3' b4' z0' z1' z2' z3' z4' hrule2
          rw [hz1.out]
          obtain ⟨n1, e1⟩ := R
          simp only at hst hr1 hn1 hR1 ⊢
          by_cases hz0 : e1 = 0
          · subst hz0
            have hM2 : Hid (membersS d n1 (t.names.drop (q + 1)) (t.items.drop (q + 1)) = N) := by rw [Hid, ← hM.out, hst.out, if_pos rfl]
            obtain ⟨xs, hRw, hX⟩ := hL.out.row
            have hRR1 := hR1.out rfl
            obtain ⟨ty, y, rfl⟩ := RuleR.some hRR1
            have hbr0 : Hid (br < X0.heap.size) := by have := hbr.out; have := hX0s.out; show _ < _; omega
            have hab : ∀ k, blkOf a k → 0 < c → X0.heap.size ≤ k ∧ k < wr.heap.size := by
              rintro k ⟨o', s', e⟩ hc
              rcases hRw.pt with h0 | ⟨b, o2, e2, h3, h4, -⟩
              · omega
              · rw [e] at e2; cases e2; exact ⟨h3, h4⟩
            have hRw1 : Rw (W1.alloc (.cells #[.string s, .iface ty y] 84)) X0.heap.size 2 a q c xs := by
              rcases Nat.eq_zero_or_pos c with hc | hc
              · refine ⟨hRw.len, hRw.le, hRw.mx, .inl hc⟩
              · refine hRw.keep (by have := hfr.size; rw [World.size_alloc]; omega) fun b hb hlt => ?_
                obtain ⟨hb1, hb2⟩ := hab b hb hc
                exact (Below.heap_alloc _ _ _ (by have := hfr.size; omega)).trans (hfr.block b hb2 (by have := hbr0.out; show ¬ b = br; omega))
            have hsrc := hid_of (Src.of_block (P := Tryz.prog) (size := 2) Tryz.underlying50 (heap_alloc_new W1 (.cells #[.string s, .iface ty y] 84)) 1 1 rfl (by intro u hu; simp at hu; rcases hu with rfl | rfl <;> rfl))
            have hnext := fun g o c2 w2 hA => hid_of (RuleSt.next (g := g) (o := o) (c2 := c2) (w2 := w2) (o1 := .cells #[.string s, .iface ty y] 84) hL.out hbr0.out hRw1 hX hlN.out hs.out ht.out hfr hr1.out hn1.out (fun k hk hc => (hab k hk hc).2) hRR1 hA)
            have hbase : Hid (X0.heap.size ≤ (W1.alloc (.cells #[.string s, .iface ty y] 84)).heap.size) := by
              have h1 := hL.out.fr.size; have h2 := hfr.size; show _ ≤ _; rw [World.size_alloc]; omega
            replace hRw1 := hid_of hRw1
            clear hst hX hR1 hRR1 hr1 hn1 hRw hab hfr hF1 hRR
            go_wp2_with (at_builtin; refine wpList_append_rw _ rfl _ _ 50 rfl 84 ri _ 2 32 Tryz.underlying50 hri hri1 hri2 hri3 rfl X0.heap.size a q c xs rfl hRw1.out.len hRw1.out.le hRw1.out.mx hRw1.out.rd _ rfl 1 _ hsrc.out (fun _ => hRw1.out) (by decide) hq1.out.1 hq1.out.2 hbase.out ?_; intro g2 o2 c2 W3 hA; replace hnext := hnext g2 o2 c2 W3 hA)
            go_roundw
            case rel => exact ⟨q + 1, n1, some ⟨g2, o2, none⟩, c2, by omega, by go_num, rfl, hnext, hM2⟩
            case measure => simp [intOf]; omega
          · have hb0 : (e1 != 0) = true := by simpa using hz0
            have hfin : Hid (N = (n1, e1)) := by rw [Hid, ← hM.out, hst.out, if_neg hz0]
            clear hst
            go_wp2_with fail
            go_ret2
            refine ⟨(hF0.out.trans hL.out.fr).trans hfr, ?_, ?_, none, 0, 0, ?_, ?_⟩
            all_goals rw [hNN.out, hfin.out]
            · exact hr1.out
            · exact hn1.out
            · rfl
            · exact fun e => absurd e hz0
        · have e : t.items.drop q = [] := List.drop_eq_nil_of_le (by omega)
          have hi : ¬ (q : Int) < (u.ln : Int) := by have h1 := hnl.out; have h2 := hlN.out; omega
          have hfin : Hid (N = (n', 0)) := by rw [Hid, ← hM.out, e, membersS]
          have hqe : Hid (q = t.items.length) := by show q = _; omega
          clear hlt e
          go_wp2_with fail
          go_ret2
          refine ⟨hF0.out.trans hL.out.fr, ?_, ?_, a, q, c, ?_, ?_⟩
          all_goals rw [hNN.out, hfin.out]
          · exact hL.out.rd
          · exact hL.out.le
          · rfl
          · exact fun _ => ⟨hqe.out, (hL.out.fin hlN.out hqe.out).keep (fun _ _ _ => rfl) (fun k hk => ⟨by have := hX0s.out; omega, hk.2⟩)⟩
  · have hb6 : (u.k != 6) = true := by simp [hk]
    have hfin : Hid (N = (n, 210)) := by rw [Hid, ← hNN.out]; unfold schemaS; rw [if_neg (by rw [hkd.out]; exact hk)]
    clear hk
    go_wp2_with fail
    go_ret2
    refine ⟨hF0.out, ?_, ?_, none, 0, 0, ?_, ?_⟩
    all_goals rw [hNN.out, hfin.out]
    · exact hR0.out
    · exact hn
    · rfl
    · exact fun e => by cases e
end Go.Proofs.YtgjemghfejaifaaGreatDoor
