import Derived.Test.YtgjemghfejaifaaGreatDoorSK
/-! schema: several schemas are read. -/
namespace Go.Proofs.YtgjemghfejaifaaGreatDoor
open Go Go.RowKit

theorem A21 : (Tryz.prog.info? 50).map (fun i => (i.zero, i.size, i.bytes)) = some (some (.slice none 0 0), 1, 24) := by kernel_rfl
theorem listS_at {d n : Nat} {its : List Tr} {q : Nat} {t : Tr} (h : its[q]? = some t) : listS d n (its.drop q) = if (schemaS d n t).2 = 0 then listS d (schemaS d n t).1 (its.drop (q + 1)) else schemaS d n t := by
  have hlt := (List.getElem?_eq_some_iff.1 h).1
  rw [List.drop_eq_getElem_cons hlt, (List.getElem?_eq_some_iff.1 h).2, listS_cons]
/-- What reading several leaves. -/
structure ListPost (w : World) (br m d n : Nat) (its : List Tr) (e : Ending) (w' : World) : Prop where
  fr : Fr (fun b => b = br) w w'
  rd : ReaderAt w' br m (listS d n its).1
  le : (listS d n its).1 ≤ 128
  ret : ∃ a l c, e = .returned (.tuple #[.slice a l c, .int .i64 (listS d n its).2]) ∧ ((listS d n its).2 = 0 → l = its.length ∧ (its = [] ∨ ∃ b o, a = some ⟨b, o, none⟩ ∧ (w.heap.size ≤ b ∧ b < w'.heap.size) ∧ SchemasL w' (fun k => w.heap.size ≤ k ∧ k < w'.heap.size) b o its))
/-- Schemas that are being read. -/
structure ListSt (w : World) (br m : Nat) (its : List Tr) (q n : Nat) (a : Option Addr) (c : Nat) (wr : World) : Prop where
  fr : Fr (fun b => b = br) w wr
  rd : ReaderAt wr br m n
  le : n ≤ 128
  row : ∃ xs, Rw wr w.heap.size 1 a q c xs ∧ ∃ S : Nat → Prop, (∀ k, S k → w.heap.size ≤ k ∧ k < wr.heap.size ∧ ¬ blkOf a k) ∧ SchemasX wr S xs (its.take q)
/-- Where an append has gone: what stands elsewhere is kept. -/
theorem appd_kept {w1 w2 : World} {lo size n m c g o c2 : Nat} {a : Option Addr} {ys : List Value} (hA : Appd w1 lo size a n m c ys g o c2 w2) {k : Nat} (hk : k < w1.heap.size) (hg : k ≠ g) : w2.heap[k]? = w1.heap[k]? := by
  refine hA.fr.block k hk fun h => ?_
  obtain ⟨⟨o', s', e⟩, h2⟩ := h
  rcases hA.at' with ⟨h3, -, -⟩ | ⟨-, -, h3⟩
  · rw [e] at h3; cases h3; exact hg rfl
  · omega
/-- The new row is the old one, or stands in new memory. -/
theorem appd_g {w1 w2 : World} {lo size n m c g o c2 : Nat} {a : Option Addr} {ys : List Value} (hA : Appd w1 lo size a n m c ys g o c2 w2) : blkOf a g ∨ g = w1.heap.size := by
  rcases hA.at' with ⟨h3, -, -⟩ | ⟨h3, -, -⟩
  · exact .inl ⟨o, none, h3⟩
  · exact .inr h3
theorem appd_ge {w1 w2 : World} {lo size n m c g o c2 : Nat} {a : Option Addr} {xs ys : List Value} (hR : Rw w1 lo size a n c xs) (hm : 0 < m) (hlo : lo ≤ w1.heap.size) (hA : Appd w1 lo size a n m c ys g o c2 w2) : lo ≤ g ∧ (g < w1.heap.size ∨ g = w1.heap.size) := by
  rcases hA.at' with ⟨h3, -, h4⟩ | ⟨h3, -, -⟩
  · rcases hR.pt with h0 | ⟨b, o', e, h1, h2, -⟩
    · omega
    · rw [h3] at e; cases e; exact ⟨h1, .inl h2⟩
  · exact ⟨by omega, .inr h3⟩
theorem appd_size {w1 w2 : World} {lo size n m c g o c2 : Nat} {a : Option Addr} {ys : List Value} (hA : Appd w1 lo size a n m c ys g o c2 w2) : w1.heap.size ≤ w2.heap.size := hA.fr.size
theorem ListSt.next {w wr w1 w2 : World} {br m q n n1 : Nat} {its : List Tr} {t : Tr} {a a1 : Option Addr} {c c1 g o c2 : Nat} {xs : List Value} {o1 : Obj} (h : ListSt w br m its q n a c wr) (hbr : br < w.heap.size) (hRw : Rw (w1.alloc o1) w.heap.size 1 a q c xs) (hx : ∃ S : Nat → Prop, (∀ k, S k → w.heap.size ≤ k ∧ k < wr.heap.size ∧ ¬ blkOf a k) ∧ SchemasX wr S xs (its.take q)) (ht : its[q]? = some t)
    (hF1 : Fr (fun b => b = br) wr w1) (hr1 : ReaderAt w1 br m n1) (hn1 : n1 ≤ 128) (hab : ∀ k, blkOf a k → 0 < c → k < wr.heap.size) (hR : RowR w1 (fun k => wr.heap.size + 1 ≤ k ∧ k < w1.heap.size) a1 t.names t.items)
    (hA : Appd (w1.alloc o1) w.heap.size 1 a q 1 c (xs ++ [.slice a1 t.items.length c1]) g o c2 w2) : ListSt w br m its (q + 1) n1 (some ⟨g, o, none⟩) c2 w2 := by
  have hs := h.fr.size
  have hs1 := hF1.size
  have hsA : (w1.alloc o1).heap.size = w1.heap.size + 1 := World.size_alloc _ _
  obtain ⟨hg1, hg2⟩ := appd_ge hRw (by decide) (by omega) hA
  have hbk : w2.heap[br]? = (w1.alloc o1).heap[br]? := appd_kept hA (by omega) (by omega)
  obtain ⟨S, hS1, hS2⟩ := hx
  refine ⟨?_, ?_, hn1, _, hA.row, fun k => w.heap.size ≤ k ∧ k < w1.heap.size ∧ k ≠ g, ?_, ?_⟩
  · refine (h.fr.trans (hF1.alloc o1)).next hA.fr fun i hi => ?_
    obtain ⟨⟨o', s', e⟩, h2⟩ := hi
    rcases hRw.pt with h0 | ⟨b, o2, e2, h3, -⟩
    · omega
    · rw [e] at e2; cases e2; exact .inr h3
  · exact (hbk.trans (Below.heap_alloc _ _ _ (by omega))).trans hr1
  · rintro k ⟨k1, k2, k3⟩
    have := appd_size hA
    refine ⟨k1, by omega, fun e => ?_⟩
    obtain ⟨o', s', e⟩ := e
    cases e
    exact k3 rfl
  · have hk2 : ∀ k, k < w1.heap.size → k ≠ g → w2.heap[k]? = w1.heap[k]? := fun k hk hne => (appd_kept hA (by omega) hne).trans (Below.heap_alloc _ _ _ hk)
    have e3 : its.take (q + 1) = its.take q ++ [t] := by rw [List.take_add_one, ht]; rfl
    rw [e3]
    refine SchemasX.snoc ?_ ?_
    · refine hR.keep (fun k hk _ => hk2 k hk.2 ?_) (fun k hk => ⟨by omega, hk.2, ?_⟩)
      all_goals
        intro e
        subst e
        rcases appd_g hA with hb | hb
        · rcases hA.at' with ⟨-, -, h4⟩ | ⟨h4, -, -⟩
          · have := hab _ hb (by omega); omega
          · omega
        · omega
    · refine hS2.keep (fun k hk hlt => ?_) (fun k hk => ?_)
      · obtain ⟨k1, k2, k3⟩ := hS1 k hk
        have hne : k ≠ g := by
          intro e; subst e
          rcases appd_g hA with hb | hb
          · exact k3 hb
          · omega
        exact (hk2 k (by omega) hne).trans (hF1.block k k2 (by show ¬ k = br; omega))
      · obtain ⟨k1, k2, k3⟩ := hS1 k hk
        refine ⟨k1, by omega, fun e => ?_⟩
        subst e
        rcases appd_g hA with hb | hb
        · exact k3 hb
        · omega
theorem ListSt.fin {w wr : World} {br m q n : Nat} {its : List Tr} {a : Option Addr} {c : Nat} (h : ListSt w br m its q n a c wr) (hq : q = its.length) : its = [] ∨ ∃ b o, a = some ⟨b, o, none⟩ ∧ (w.heap.size ≤ b ∧ b < wr.heap.size) ∧ SchemasL wr (fun k => w.heap.size ≤ k ∧ k < wr.heap.size) b o its := by
  obtain ⟨xs, hR, S, hS, hX⟩ := h.row
  rw [hq, List.take_length] at hX
  cases its with
  | nil => exact .inl rfl
  | cons t ts =>
    right
    rcases hR.pt with h0 | ⟨b, o, e, h1, h2, h3, h4⟩
    · have := hR.le; simp at hq; omega
    · refine ⟨b, o, e, ⟨h1, h2⟩, SchemasX.row (hX.keep (fun _ _ _ => rfl) (fun k hk => ⟨(hS k hk).1, (hS k hk).2.1⟩)) fun j u hj => ?_⟩
      obtain ⟨b', o', e', -, h5⟩ := hR.cell hj
      rw [e] at e'; cases e'
      exact h5
set_option maxHeartbeats 8000000 in
set_option maxRecDepth 100000 in
theorem schemas_any (w0 : World) (its : List Tr) (hO : Hid (∀ t ∈ its, SchemaOk w0 t)) (d n br m : Nat) (ai : Option Addr) (ci : Nat) (w : World) (hd : d ≤ 8) (hn : n ≤ 128) (hI : Hid (RowT w0 ai its)) (hS : Hid (SmallL its)) (hN : Hid (NamesL its)) (hl : its.length ≤ 1759218604390) (hE : Hid (EnvS w0 w br m)) (hR : Hid (ReaderAt w br m n)) :
    Calls Tryz.prog 53 #[.pointer (some ⟨br, 0, none⟩), .slice ai its.length ci, .int .i64 (d : Int)] w (ListPost w br m (d + 1) n its) := by
  obtain ⟨ri, hri, hri1, hri2, hri3⟩ := info_parts A21
  have hbr := hid_of hR.out.lt
  obtain ⟨N, hNN⟩ : ∃ N, Hid (listS (d + 1) n its = N) := ⟨_, rfl⟩
  have hd1 : (d : Int) + 1 ≤ 100 := by omega
  have hd0 : (0 : Int) ≤ (d : Int) := by omega
  have hc1 : (((d + 1 : Nat) : Int)) = (d : Int) + 1 := by omega
  go_enter Tryz.func53, Tryz.ntmps53
  go_wp2_with fail
  go_loopw [8, 15] (fun l i wr => ∃ (q n' : Nat) (a : Option Addr) (c : Nat), q ≤ its.length ∧ i = .int .i64 q ∧ l = .slice a q c ∧ Hid (ListSt w br m its q n' a c wr) ∧ Hid (listS (d + 1) n' (its.drop q) = N)) (fun _ i _ => its.length - (intOf i).toNat)
  case atStart => exact ⟨0, n, none, 0, Nat.zero_le _, rfl, rfl, ⟨Fr.refl _ _, hR.out, hn, [], Rw.nil _ _ _ _, fun _ => False, fun _ h => h.elim, rfl⟩, hNN⟩
  case round =>
    obtain ⟨q, n', a, c, hq, rfl, rfl, hL, hM⟩ := hrel
    by_cases hlt : q < its.length
    · obtain ⟨t, ht⟩ : ∃ t, Hid (its[q]? = some t) := ⟨_, hid_e (List.getElem?_eq_getElem hlt)⟩
      obtain ⟨g, o, hai, hg, hV⟩ := hI.out.resolve_left (by intro e; subst e; simp at hlt)
      obtain ⟨cs, hCs, hr⟩ := VRepL.at its o q t hV ht.out
      obtain ⟨v, rfl⟩ := vrep_v5 hr
      have hEr := hid_of (hE.out.fr hL.out.fr)
      unfold V5.cs five at hCs
      have z0 := (hEr.out.old.cell (p := ⟨g, o + q * 5 + 0, none⟩) hg).trans (hCs 0 _ rfl)
      have z1 := (hEr.out.old.cell (p := ⟨g, o + q * 5 + 1, none⟩) hg).trans (hCs 1 _ rfl)
      have z2 := (hEr.out.old.cell (p := ⟨g, o + q * 5 + 2, none⟩) hg).trans (hCs 2 _ rfl)
      have z3 := (hEr.out.old.cell (p := ⟨g, o + q * 5 + 3, none⟩) hg).trans (hCs 3 _ rfl)
      have z4 := (hEr.out.old.cell (p := ⟨g, o + q * 5 + 4, none⟩) hg).trans (hCs 4 _ rfl)
      simp only [Nat.add_zero] at z0
      have hi : (q : Int) < (its.length : Int) := by omega
      have hq1 : Hid ((q + 1) ≤ maxLen ∧ (q + 1) * 24 ≤ 140737488355328) := by refine ⟨?_, ?_⟩; unfold maxLen; omega; omega
      rw [hai]
      have hcall := fun o1 => hid_of (hO.out t (List.mem_of_getElem? ht.out) (d + 1) n' br m v (wr.alloc o1) (by omega) hL.out.le hr (SmallL.at hS.out ht.out) (NamesL.at hN.out ht.out) (hEr.out.fr ((Fr.refl _ _).alloc o1)) (hL.out.rd.keep ((Below.refl _ _).alloc (Nat.le_refl _) o1)))
      have hst := hid_of (listS_at (d := d + 1) (n := n') ht.out)
      obtain ⟨N1, hN1⟩ : ∃ N, Hid (schemaS (d + 1) n' t = N) := ⟨_, rfl⟩
      rw [hN1.out] at hst
      unfold V5.v at hcall
      rw [hc1] at hcall
      clear hV hCs hr hg hc1
      go_wp2_with fail
      refine (hcall _).out.mono ?_
      rintro e W1 hP
      obtain ⟨a1, l1, c1, rfl, hret⟩ := hP.ret
      have hrd := hP.rd
      have hle := hP.le
      have hfr := ((Fr.refl (fun b => b = br) wr).alloc (.cells #[.int .i64 v.k, .int .i64 v.x, .string v.s, .slice v.an v.ln v.cn, .slice v.ai v.li v.ci] 25)).trans hP.fr
      rw [World.size_alloc] at hret
      rw [hN1.out] at hret hrd hle ⊢
      clear hP hcall z0 z1 z2 z3 z4 hN1
      obtain ⟨n1, e1⟩ := N1
      simp only at hst hret hrd hle ⊢
      by_cases h0 : e1 = 0
      · subst h0
        obtain ⟨hl1, hRow⟩ := hret rfl
        subst hl1
        have hM2 : Hid (listS (d + 1) n1 (its.drop (q + 1)) = N) := by rw [Hid, ← hM.out, hst.out, if_pos rfl]
        obtain ⟨xs, hRw, hX⟩ := hL.out.row
        have hab : ∀ k, blkOf a k → 0 < c → w.heap.size ≤ k ∧ k < wr.heap.size := by
          rintro k ⟨o', s', e⟩ hc
          rcases hRw.pt with h0 | ⟨b, o2, e2, h3, h4, -⟩
          · omega
          · rw [e] at e2; cases e2; exact ⟨h3, h4⟩
        have hRw1 : Rw (W1.alloc (.cells #[.slice a1 t.items.length c1] 50)) w.heap.size 1 a q c xs := by
          rcases Nat.eq_zero_or_pos c with hc | hc
          · refine ⟨hRw.len, hRw.le, hRw.mx, .inl hc⟩
          · refine hRw.keep (by have := hfr.size; rw [World.size_alloc]; omega) fun b hb hlt => ?_
            obtain ⟨hb1, hb2⟩ := hab b hb hc
            exact (Below.heap_alloc _ _ _ (by have := hfr.size; omega)).trans (hfr.block b hb2 (by have := hbr.out; show ¬ b = br; omega))
        have hsrc := hid_of (Src.of_block (P := Tryz.prog) (size := 1) Tryz.underlying100 (heap_alloc_new W1 (.cells #[.slice a1 t.items.length c1] 50)) 1 1 rfl (by intro u hu; simp at hu; subst hu; rfl))
        have hnext := fun g o c2 w2 hA => hid_of (ListSt.next (c1 := c1) (g := g) (o := o) (c2 := c2) (w2 := w2) (o1 := .cells #[.slice a1 t.items.length c1] 50) hL.out hbr.out hRw1 hX ht.out hfr hrd hle (fun k hk hc => (hab k hk hc).2) hRow hA)
        have hbase : Hid (w.heap.size ≤ (W1.alloc (.cells #[.slice a1 t.items.length c1] 50)).heap.size) := by
          have h1 := hL.out.fr.size; have h2 := hfr.size; show _ ≤ _; rw [World.size_alloc]; omega
        replace hRw1 := hid_of hRw1
        clear hst hret hX hRow hrd hle hRw hab hfr
        go_wp2_with (at_builtin; refine wpList_append_rw _ rfl _ _ 100 rfl 50 ri _ 1 24 Tryz.underlying100 hri hri1 hri2 hri3 rfl w.heap.size a q c xs rfl hRw1.out.len hRw1.out.le hRw1.out.mx hRw1.out.rd _ rfl 1 _ hsrc.out (fun _ => hRw1.out) (by decide) hq1.out.1 hq1.out.2 hbase.out ?_; intro g2 o2 c2 W3 hA; replace hnext := hnext g2 o2 c2 W3 hA)
        go_roundw
        case rel => exact ⟨q + 1, n1, some ⟨g2, o2, none⟩, c2, by omega, by go_num, rfl, hnext, hM2⟩
        case measure => simp [intOf]; omega
      · have hb0 : (e1 != 0) = true := by simpa using h0
        have hfin : Hid (N = (n1, e1)) := by rw [Hid, ← hM.out, hst.out, if_neg h0]
        clear hst
        go_wp2_with fail
        go_ret2
        refine ⟨hL.out.fr.trans hfr, ?_, ?_, none, 0, 0, ?_, ?_⟩
        all_goals rw [hNN.out, hfin.out]
        · exact hrd
        · exact hle
        · rfl
        · exact fun e => absurd e h0
    · have e : its.drop q = [] := List.drop_eq_nil_of_le (by omega)
      have hi : ¬ (q : Int) < (its.length : Int) := by omega
      have hfin : Hid (N = (n', 0)) := by rw [Hid, ← hM.out, e]; rfl
      have hqe : Hid (q = its.length) := by show q = _; omega
      clear hlt e
      go_wp2_with fail
      go_ret2
      refine ⟨hL.out.fr, ?_, ?_, a, q, c, ?_, ?_⟩
      all_goals rw [hNN.out, hfin.out]
      · exact hL.out.rd
      · exact hL.out.le
      · rfl
      · exact fun _ => ⟨hqe.out, hL.out.fin hqe.out⟩
end Go.Proofs.YtgjemghfejaifaaGreatDoor
/-! schema: the makers that read schemas. -/
namespace Go.Proofs.YtgjemghfejaifaaGreatDoor
open Go Go.RowKit

/-- What a maker leaves. -/
structure RulePost (w : World) (br m d n j : Nat) (t : Tr) (e : Ending) (w' : World) : Prop where
  fr : Fr (fun b => b = br) w w'
  rd : ReaderAt w' br m (ruleS d n j t).1
  le : (ruleS d n j t).1 ≤ 128
  ret : ∃ v, e = .returned (.tuple #[v, .int .i64 (ruleS d n j t).2]) ∧ ((ruleS d n j t).2 = 0 → RuleR w' (fun k => w.heap.size ≤ k ∧ k < w'.heap.size) j t v)
/-- What a maker is given. -/
structure Gv (w0 w : World) (br m d n : Nat) (t : Tr) (u : V5) : Prop where
  d8 : d ≤ 8
  le : n ≤ 128
  rep : VRep w0 t u.cs
  small : SmallT t
  names : NamesT t
  env : EnvS w0 w br m
  rd : ReaderAt w br m n
theorem rep_row {w : World} {t : Tr} {v : V5} (h : VRep w t v.cs) : RowT w v.ai t.items ∧ v.li = t.items.length := by
  obtain ⟨k, x, s, ns, is⟩ := t
  unfold VRep V5.cs five at h
  obtain ⟨nm, a, c, e, -, -, h4⟩ := h
  simp only [List.cons.injEq, Value.slice.injEq, and_true] at e
  obtain ⟨-, -, -, -, e1, e2, -⟩ := e
  rw [e1]
  exact ⟨h4, e2⟩
theorem small_parts {t : Tr} (h : SmallT t) : t.items.length ≤ 1759218604390 ∧ t.names.length ≤ 8796093021952 ∧ (∀ n ∈ t.names, n.size ≤ 140737488351232) ∧ SmallL t.items ∧ t.text.size ≤ 140737488351232 := by
  obtain ⟨k, x, s, ns, its⟩ := t
  unfold SmallT at h
  obtain ⟨h1, h2, h3, h4, h5⟩ := h
  exact ⟨by show its.length ≤ _; omega, by show ns.length ≤ _; omega, h3, h5, h1⟩
theorem names_parts {t : Tr} (h : NamesT t) : (t.kind = 6 → t.names.length = t.items.length) ∧ NamesL t.items := by
  obtain ⟨k, x, s, ns, its⟩ := t
  unfold NamesT at h
  exact h
theorem rule_pos {j : Nat} (d n : Nat) (t : Tr) : ruleS d n j t = (if j = 0 then (n, if typeOk t.kind t.text t.items = true then 0 else 210) else
    if j = 1 then (n, if t.kind = 5 ∧ t.items ≠ [] then 0 else 210) else
    if j = 2 then (n, if t.kind = 5 ∧ t.items.all (fun t => t.kind == 4) = true then 0 else 210) else
    if j = 3 then (if t.kind = 6 then listS (d + 1) n t.items else (n, 210)) else
    if j = 4 then (n, if t.kind = 1 ∨ t.kind = 2 then 0 else 210) else
    if j = 5 ∨ j = 15 then schemaS (d + 1) n t else
    if j = 13 ∨ j = 14 then (if t.kind = 5 ∧ t.items ≠ [] then listS (d + 1) n t.items else (n, 210)) else
    if j = 16 then (n, 210) else (n, if t.kind = 3 ∧ leastOf j ≤ t.int then 0 else 210)) := by
  obtain ⟨k, x, s, ns, its⟩ := t
  rw [ruleS]
  rfl
/-- Rules of which nothing is told. -/
theorem ruleR_other {w : World} {S : Nat → Prop} {j : Nat} (h3 : j ≠ 3) (h10 : j ≠ 10) (t : Tr) (ty : TypeId) (v : Value) : RuleR w S j t (.iface ty v) := by
  obtain ⟨k, x, s, ns, its⟩ := t
  unfold RuleR
  exact ⟨⟨_, _, rfl⟩, fun e => absurd e h3, fun e => absurd e h10⟩
theorem Gv.alloc {w0 w : World} {br m d n : Nat} {t : Tr} {u : V5} (h : Gv w0 w br m d n t u) (o : Obj) : EnvS w0 (w.alloc o) br m ∧ ReaderAt (w.alloc o) br m n :=
  ⟨h.env.fr ((Fr.refl _ _).alloc o), h.rd.keep ((Below.refl _ _).alloc (Nat.le_refl _) o)⟩

set_option maxHeartbeats 2000000 in
set_option maxRecDepth 100000 in
theorem made_items (w0 : World) (br m d n : Nat) (t : Tr) (u b : V5) (w : World) (h : Gv w0 w br m d n t u) (hO : SchemaOk w0 t) :
    Calls Tryz.prog 33 #[.pointer (some ⟨br, 0, none⟩), givenV u b d] w (RulePost w br m d n 5 t) := by
  have hb0 := hid_of ((Fr.refl (fun b => b = br) w).alloc (givenO u b d))
  obtain ⟨x0, x1, x2, x3, x4, x5, x6, x7, x8, x9, x10⟩ := givenO_cells (heap_alloc_new w (givenO u b d))
  have hcall := hid_of (hO (d + 1) n br m u (w.alloc (givenO u b d)) (by have := h.d8; omega) h.le h.rep h.small h.names (h.alloc _).1 (h.alloc _).2)
  have hd1 : (d : Int) + 1 ≤ 100 := by have := h.d8; omega
  have hc1 : (((d + 1 : Nat) : Int)) = (d : Int) + 1 := by omega
  rw [hc1] at hcall
  have hsz : Hid ((w.alloc (givenO u b d)).heap.size = w.heap.size + 1) := World.size_alloc _ _
  unfold givenO at *
  unfold givenV
  unfold V5.v at hcall
  clear hc1 h
  go_enter Tryz.func33, Tryz.ntmps33
  go_wp2_with fail
  refine hcall.out.mono ?_
  rintro e W1 hP
  obtain ⟨a1, l1, c1, rfl, hret⟩ := hP.ret
  have hfin : ∀ v : Value, Hid (RulePost w br m d n 5 t (.returned (.tuple #[.iface 110 v, .int .i64 (schemaS (d + 1) n t).2])) W1) := fun v => by
    have e : ruleS d n 5 t = schemaS (d + 1) n t := by rw [rule_pos]; simp
    refine ⟨hb0.out.trans hP.fr, ?_, ?_, .iface 110 v, ?_, fun _ => ruleR_other (by decide) (by decide) _ _ _⟩
    · rw [e]; exact hP.rd
    · rw [e]; exact hP.le
    · rw [e]
  generalize (schemaS (d + 1) n t).2 = z at hfin ⊢
  clear hP hcall x0 x1 x2 x3 x4 x5 x6 x7 x8 x9 x10 hret
  go_wp2_with fail
  go_ret2
  exact (hfin _).out
set_option maxHeartbeats 2000000 in
set_option maxRecDepth 100000 in
theorem made_not (w0 : World) (br m d n : Nat) (t : Tr) (u b : V5) (w : World) (h : Gv w0 w br m d n t u) (hO : SchemaOk w0 t) :
    Calls Tryz.prog 42 #[.pointer (some ⟨br, 0, none⟩), givenV u b d] w (RulePost w br m d n 15 t) := by
  have hb0 := hid_of ((Fr.refl (fun b => b = br) w).alloc (givenO u b d))
  obtain ⟨x0, x1, x2, x3, x4, x5, x6, x7, x8, x9, x10⟩ := givenO_cells (heap_alloc_new w (givenO u b d))
  have hcall := hid_of (hO (d + 1) n br m u (w.alloc (givenO u b d)) (by have := h.d8; omega) h.le h.rep h.small h.names (h.alloc _).1 (h.alloc _).2)
  have hd1 : (d : Int) + 1 ≤ 100 := by have := h.d8; omega
  have hc1 : (((d + 1 : Nat) : Int)) = (d : Int) + 1 := by omega
  rw [hc1] at hcall
  have hsz : Hid ((w.alloc (givenO u b d)).heap.size = w.heap.size + 1) := World.size_alloc _ _
  unfold givenO at *
  unfold givenV
  unfold V5.v at hcall
  clear hc1 h
  go_enter Tryz.func42, Tryz.ntmps42
  go_wp2_with fail
  refine hcall.out.mono ?_
  rintro e W1 hP
  obtain ⟨a1, l1, c1, rfl, hret⟩ := hP.ret
  have hfin : ∀ v : Value, Hid (RulePost w br m d n 15 t (.returned (.tuple #[.iface 117 v, .int .i64 (schemaS (d + 1) n t).2])) W1) := fun v => by
    have e : ruleS d n 15 t = schemaS (d + 1) n t := by rw [rule_pos]; simp
    refine ⟨hb0.out.trans hP.fr, ?_, ?_, .iface 117 v, ?_, fun _ => ruleR_other (by decide) (by decide) _ _ _⟩
    · rw [e]; exact hP.rd
    · rw [e]; exact hP.le
    · rw [e]
  generalize (schemaS (d + 1) n t).2 = z at hfin ⊢
  clear hP hcall x0 x1 x2 x3 x4 x5 x6 x7 x8 x9 x10 hret
  go_wp2_with fail
  go_ret2
  exact (hfin _).out
set_option maxHeartbeats 4000000 in
set_option maxRecDepth 100000 in
theorem made_any (w0 : World) (br m d n : Nat) (t : Tr) (u b : V5) (w : World) (h : Gv w0 w br m d n t u) (hO : Hid (∀ t' ∈ t.items, SchemaOk w0 t')) :
    Calls Tryz.prog 40 #[.pointer (some ⟨br, 0, none⟩), givenV u b d] w (RulePost w br m d n 13 t) := by
  have hb0 := hid_of ((Fr.refl (fun b => b = br) w).alloc (givenO u b d))
  have hn0 := heap_alloc_new w (givenO u b d)
  have hs := hid_of (several_any u (w.alloc (givenO u b d)))
  have hE0 := hid_of (h.alloc (givenO u b d)).1
  have hR0 := hid_of (h.alloc (givenO u b d)).2
  have hbr := hid_of h.rd.lt
  have hd1 : (d : Int) + 1 ≤ 100 := by have := h.d8; omega
  obtain ⟨hrow, hli⟩ := rep_row h.rep
  have hkd := hid_of (vrep_head h.rep).1
  have hsz : Hid ((w.alloc (givenO u b d)).heap.size = w.heap.size + 1) := World.size_alloc _ _
  have hX0 := hn0
  obtain ⟨x0, x1, x2, x3, x4, x5, x6, x7, x8, x9, x10⟩ := givenO_cells hn0
  obtain ⟨r, hr⟩ : ∃ r, Hid (ruleS d n 13 t = r) := ⟨_, rfl⟩
  have hr2 : Hid ((if t.kind = 5 ∧ t.items ≠ [] then listS (d + 1) n t.items else (n, 210)) = r) := by
    rw [Hid, ← hr.out, rule_pos]; simp
  unfold givenO at *
  unfold givenV
  unfold V5.v at hs
  replace hrow := hid_of hrow
  replace hli := hid_of hli
  go_enter Tryz.func40, Tryz.ntmps40
  go_wp2_with fail
  generalize w.alloc (.cells #[.int .i64 u.k, .int .i64 u.x, .string u.s, .slice u.an u.ln u.cn, .slice u.ai u.li u.ci, .int .i64 b.k, .int .i64 b.x, .string b.s, .slice b.an b.ln b.cn, .slice b.ai b.li b.ci, .int .i64 (d : Int)] 82) = X at *
  refine hs.out.mono ?_
  rintro e W ⟨rfl, hb⟩
  have hbX := hid_of (hb0.out.trans (Fr.of_below hb))
  have hEW := hid_of (hE0.out.fr (Fr.of_below hb))
  have hRW := hid_of (hR0.out.keep hb)
  have t0 := stay hb x0
  have t4 := stay hb x4
  have t10 := stay hb x10
  clear hs x0 x1 x2 x3 x4 x5 x6 x7 x8 x9 x10 hb hb0 hn0 hX0
  by_cases hc : u.k = 5 ∧ 0 < u.li
  · have hc2 : Hid (listS (d + 1) n t.items = r) := by
      rw [Hid, ← hr2.out, if_pos ⟨by rw [hkd.out]; exact hc.1, fun e => by have := hli.out; rw [e] at this; have := hc.2; simp at *; omega⟩]
    rw [decide_eq_true hc]
    clear hc
    have hcall := hid_of (schemas_any w0 t.items hO d n br m u.ai u.ci W h.d8 h.le hrow (hid_of (small_parts h.small).2.2.2.1) (hid_of (names_parts h.names).2) (small_parts h.small).1 hEW hRW)
    rw [← hli.out] at hcall
    clear h
    go_wp2_with fail
    refine hcall.out.mono ?_
    rintro e W1 hP
    obtain ⟨a1, l1, c1, rfl, hret⟩ := hP.ret
    have hfin : ∀ v : Value, Hid (RulePost w br m d n 13 t (.returned (.tuple #[.iface 115 v, .int .i64 (listS (d + 1) n t.items).2])) W1) := fun v => by
      have e : ruleS d n 13 t = listS (d + 1) n t.items := by rw [hr.out, hc2.out]
      refine ⟨hbX.out.trans hP.fr, ?_, ?_, .iface 115 v, ?_, fun _ => ruleR_other (by decide) (by decide) _ _ _⟩
      · rw [e]; exact hP.rd
      · rw [e]; exact hP.le
      · rw [e]
    generalize (listS (d + 1) n t.items).2 = z at hfin ⊢
    clear hP hcall hret t0 t4 t10
    go_wp2_with fail
    go_ret2
    exact (hfin _).out
  · have hc2 : Hid ((n, (210 : Int)) = r) := by
      rw [Hid, ← hr2.out, if_neg]
      rintro ⟨h1, h2⟩
      exact hc ⟨by rw [← hkd.out]; exact h1, by have := hli.out; have : 0 < t.items.length := List.length_pos_iff.2 h2; omega⟩
    rw [decide_eq_false hc]
    have hle := hid_of h.le
    clear hc h
    go_wp2_with fail
    go_ret2
    have e : ruleS d n 13 t = (n, 210) := by rw [hr.out, hc2.out]
    refine ⟨hbX.out, ?_, ?_, .nilIface, ?_, ?_⟩
    · rw [e]; exact hRW.out
    · rw [e]; exact hle.out
    · rw [e]; rfl
    · rw [e]; exact fun h => by cases h
set_option maxHeartbeats 4000000 in
set_option maxRecDepth 100000 in
theorem made_all (w0 : World) (br m d n : Nat) (t : Tr) (u b : V5) (w : World) (h : Gv w0 w br m d n t u) (hO : Hid (∀ t' ∈ t.items, SchemaOk w0 t')) :
    Calls Tryz.prog 41 #[.pointer (some ⟨br, 0, none⟩), givenV u b d] w (RulePost w br m d n 14 t) := by
  have hb0 := hid_of ((Fr.refl (fun b => b = br) w).alloc (givenO u b d))
  have hn0 := heap_alloc_new w (givenO u b d)
  have hs := hid_of (several_any u (w.alloc (givenO u b d)))
  have hE0 := hid_of (h.alloc (givenO u b d)).1
  have hR0 := hid_of (h.alloc (givenO u b d)).2
  have hbr := hid_of h.rd.lt
  have hd1 : (d : Int) + 1 ≤ 100 := by have := h.d8; omega
  obtain ⟨hrow, hli⟩ := rep_row h.rep
  have hkd := hid_of (vrep_head h.rep).1
  have hsz : Hid ((w.alloc (givenO u b d)).heap.size = w.heap.size + 1) := World.size_alloc _ _
  have hX0 := hn0
  obtain ⟨x0, x1, x2, x3, x4, x5, x6, x7, x8, x9, x10⟩ := givenO_cells hn0
  obtain ⟨r, hr⟩ : ∃ r, Hid (ruleS d n 14 t = r) := ⟨_, rfl⟩
  have hr2 : Hid ((if t.kind = 5 ∧ t.items ≠ [] then listS (d + 1) n t.items else (n, 210)) = r) := by
    rw [Hid, ← hr.out, rule_pos]; simp
  unfold givenO at *
  unfold givenV
  unfold V5.v at hs
  replace hrow := hid_of hrow
  replace hli := hid_of hli
  go_enter Tryz.func41, Tryz.ntmps41
  go_wp2_with fail
  generalize w.alloc (.cells #[.int .i64 u.k, .int .i64 u.x, .string u.s, .slice u.an u.ln u.cn, .slice u.ai u.li u.ci, .int .i64 b.k, .int .i64 b.x, .string b.s, .slice b.an b.ln b.cn, .slice b.ai b.li b.ci, .int .i64 (d : Int)] 82) = X at *
  refine hs.out.mono ?_
  rintro e W ⟨rfl, hb⟩
  have hbX := hid_of (hb0.out.trans (Fr.of_below hb))
  have hEW := hid_of (hE0.out.fr (Fr.of_below hb))
  have hRW := hid_of (hR0.out.keep hb)
  have t0 := stay hb x0
  have t4 := stay hb x4
  have t10 := stay hb x10
  clear hs x0 x1 x2 x3 x4 x5 x6 x7 x8 x9 x10 hb hb0 hn0 hX0
  by_cases hc : u.k = 5 ∧ 0 < u.li
  · have hc2 : Hid (listS (d + 1) n t.items = r) := by
      rw [Hid, ← hr2.out, if_pos ⟨by rw [hkd.out]; exact hc.1, fun e => by have := hli.out; rw [e] at this; have := hc.2; simp at *; omega⟩]
    rw [decide_eq_true hc]
    clear hc
    have hcall := hid_of (schemas_any w0 t.items hO d n br m u.ai u.ci W h.d8 h.le hrow (hid_of (small_parts h.small).2.2.2.1) (hid_of (names_parts h.names).2) (small_parts h.small).1 hEW hRW)
    rw [← hli.out] at hcall
    clear h
    go_wp2_with fail
    refine hcall.out.mono ?_
    rintro e W1 hP
    obtain ⟨a1, l1, c1, rfl, hret⟩ := hP.ret
    have hfin : ∀ v : Value, Hid (RulePost w br m d n 14 t (.returned (.tuple #[.iface 116 v, .int .i64 (listS (d + 1) n t.items).2])) W1) := fun v => by
      have e : ruleS d n 14 t = listS (d + 1) n t.items := by rw [hr.out, hc2.out]
      refine ⟨hbX.out.trans hP.fr, ?_, ?_, .iface 116 v, ?_, fun _ => ruleR_other (by decide) (by decide) _ _ _⟩
      · rw [e]; exact hP.rd
      · rw [e]; exact hP.le
      · rw [e]
    generalize (listS (d + 1) n t.items).2 = z at hfin ⊢
    clear hP hcall hret t0 t4 t10
    go_wp2_with fail
    go_ret2
    exact (hfin _).out
  · have hc2 : Hid ((n, (210 : Int)) = r) := by
      rw [Hid, ← hr2.out, if_neg]
      rintro ⟨h1, h2⟩
      exact hc ⟨by rw [← hkd.out]; exact h1, by have := hli.out; have : 0 < t.items.length := List.length_pos_iff.2 h2; omega⟩
    rw [decide_eq_false hc]
    have hle := hid_of h.le
    clear hc h
    go_wp2_with fail
    go_ret2
    have e : ruleS d n 14 t = (n, 210) := by rw [hr.out, hc2.out]
    refine ⟨hbX.out, ?_, ?_, .nilIface, ?_, ?_⟩
    · rw [e]; exact hRW.out
    · rw [e]; exact hle.out
    · rw [e]; rfl
    · rw [e]; exact fun h => by cases h
end Go.Proofs.YtgjemghfejaifaaGreatDoor
