import Derived.Test.YtoghaanjdpcodaaGreatDoorSL
/-! schema: the makers that read schemas. -/
namespace Go.Proofs.YtoghaanjdpcodaaGreatDoor
open Go Go.RowKit

/-- What a maker leaves. -/
structure RulePost (w : World) (br m d n j : Nat) (t : Tr) (e : Ending) (w' : World) : Prop where
  fr : Fr (fun b => b = br) w w'
  rd : ReaderAt w' br m (ruleS d n j t).1
  le : (ruleS d n j t).1 ≤ 128
  ret : ∃ v, e = .returned (.tuple #[v, .int .i64 (ruleS d n j t).2]) ∧ ((ruleS d n j t).2 = 0 → RuleR w' (fun k => w.heap.size ≤ k ∧ k < w'.heap.size) j t v)
/-- What a maker is given. -/
structure Gv (w0 w : World) (br m d n : Nat) (t : Tr) (u : V5) : Prop where
  d8 : d ≤ 8
  le : n ≤ 128
  rep : VRep w0 t u.cs
  small : SmallT t
  names : NamesT t
  env : EnvS w0 w br m
  rd : ReaderAt w br m n
theorem rep_row {w : World} {t : Tr} {v : V5} (h : VRep w t v.cs) : RowT w v.ai t.items ∧ v.li = t.items.length := by
  obtain ⟨k, x, s, ns, is⟩ := t
  unfold VRep V5.cs five at h
  obtain ⟨nm, a, c, e, -, -, h4⟩ := h
  simp only [List.cons.injEq, Value.slice.injEq, and_true] at e
  obtain ⟨-, -, -, -, e1, e2, -⟩ := e
  rw [e1]
  exact ⟨h4, e2⟩
theorem small_parts {t : Tr} (h : SmallT t) : t.items.length ≤ 1759218604390 ∧ t.names.length ≤ 8796093021952 ∧ (∀ n ∈ t.names, n.size ≤ 140737488351232) ∧ SmallL t.items ∧ t.text.size ≤ 140737488351232 := by
  obtain ⟨k, x, s, ns, its⟩ := t
  unfold SmallT at h
  obtain ⟨h1, h2, h3, h4, h5⟩ := h
  exact ⟨by show its.length ≤ _; omega, by show ns.length ≤ _; omega, h3, h5, h1⟩
theorem names_parts {t : Tr} (h : NamesT t) : (t.kind = 6 → t.names.length = t.items.length) ∧ NamesL t.items := by
  obtain ⟨k, x, s, ns, its⟩ := t
  unfold NamesT at h
  exact h
theorem rule_pos {j : Nat} (d n : Nat) (t : Tr) : ruleS d n j t = (if j = 0 then (n, if typeOk t.kind t.text t.items = true then 0 else 210) else
    if j = 1 then (n, if t.kind = 5 ∧ t.items ≠ [] then 0 else 210) else
    if j = 2 then (n, if t.kind = 5 ∧ t.items.all (fun t => t.kind == 4) = true then 0 else 210) else
    if j = 3 then (if t.kind = 6 then listS (d + 1) n t.items else (n, 210)) else
    if j = 4 then (n, if t.kind = 1 ∨ t.kind = 2 then 0 else 210) else
    if j = 5 ∨ j = 15 then schemaS (d + 1) n t else
    if j = 13 ∨ j = 14 then (if t.kind = 5 ∧ t.items ≠ [] then listS (d + 1) n t.items else (n, 210)) else
    if j = 16 then (n, 210) else (n, if t.kind = 3 ∧ leastOf j ≤ t.int then 0 else 210)) := by
  obtain ⟨k, x, s, ns, its⟩ := t
  rw [ruleS]
  rfl
/-- Rules of which nothing is told. -/
theorem ruleR_other {w : World} {S : Nat → Prop} {j : Nat} (h3 : j ≠ 3) (h10 : j ≠ 10) (t : Tr) (ty : TypeId) (v : Value) : RuleR w S j t (.iface ty v) := by
  obtain ⟨k, x, s, ns, its⟩ := t
  unfold RuleR
  exact ⟨⟨_, _, rfl⟩, fun e => absurd e h3, fun e => absurd e h10⟩
theorem Gv.alloc {w0 w : World} {br m d n : Nat} {t : Tr} {u : V5} (h : Gv w0 w br m d n t u) (o : Obj) : EnvS w0 (w.alloc o) br m ∧ ReaderAt (w.alloc o) br m n :=
  ⟨h.env.fr ((Fr.refl _ _).alloc o), h.rd.keep ((Below.refl _ _).alloc (Nat.le_refl _) o)⟩

set_option maxHeartbeats 2000000 in
set_option maxRecDepth 100000 in
theorem made_items (w0 : World) (br m d n : Nat) (t : Tr) (u b : V5) (w : World) (h : Gv w0 w br m d n t u) (hO : SchemaOk w0 t) :
    Calls Tryz.prog 28 #[.pointer (some ⟨br, 0, none⟩), givenV u b d] w (RulePost w br m d n 5 t) := by
  have hb0 := hid_of ((Fr.refl (fun b => b = br) w).alloc (givenO u b d))
  obtain ⟨x0, x1, x2, x3, x4, x5, x6, x7, x8, x9, x10⟩ := givenO_cells (heap_alloc_new w (givenO u b d))
  have hcall := hid_of (hO (d + 1) n br m u (w.alloc (givenO u b d)) (by have := h.d8; omega) h.le h.rep h.small h.names (h.alloc _).1 (h.alloc _).2)
  have hd1 : (d : Int) + 1 ≤ 100 := by have := h.d8; omega
  have hc1 : (((d + 1 : Nat) : Int)) = (d : Int) + 1 := by omega
  rw [hc1] at hcall
  have hsz : Hid ((w.alloc (givenO u b d)).heap.size = w.heap.size + 1) := World.size_alloc _ _
  unfold givenO at *
  unfold givenV
  unfold V5.v at hcall
  clear hc1 h
  go_enter Tryz.func28, Tryz.ntmps28
  go_wp2_with fail
  refine hcall.out.mono ?_
  rintro e W1 hP
  obtain ⟨a1, l1, c1, rfl, hret⟩ := hP.ret
  have hfin : ∀ v : Value, Hid (RulePost w br m d n 5 t (.returned (.tuple #[.iface 97 v, .int .i64 (schemaS (d + 1) n t).2])) W1) := fun v => by
    have e : ruleS d n 5 t = schemaS (d + 1) n t := by rw [rule_pos]; simp
    refine ⟨hb0.out.trans hP.fr, ?_, ?_, .iface 97 v, ?_, fun _ => ruleR_other (by decide) (by decide) _ _ _⟩
    · rw [e]; exact hP.rd
    · rw [e]; exact hP.le
    · rw [e]
  generalize (schemaS (d + 1) n t).2 = z at hfin ⊢
  clear hP hcall x0 x1 x2 x3 x4 x5 x6 x7 x8 x9 x10 hret
  go_wp2_with fail
  go_ret2
  exact (hfin _).out
set_option maxHeartbeats 2000000 in
set_option maxRecDepth 100000 in
theorem made_not (w0 : World) (br m d n : Nat) (t : Tr) (u b : V5) (w : World) (h : Gv w0 w br m d n t u) (hO : SchemaOk w0 t) :
    Calls Tryz.prog 37 #[.pointer (some ⟨br, 0, none⟩), givenV u b d] w (RulePost w br m d n 15 t) := by
  have hb0 := hid_of ((Fr.refl (fun b => b = br) w).alloc (givenO u b d))
  obtain ⟨x0, x1, x2, x3, x4, x5, x6, x7, x8, x9, x10⟩ := givenO_cells (heap_alloc_new w (givenO u b d))
  have hcall := hid_of (hO (d + 1) n br m u (w.alloc (givenO u b d)) (by have := h.d8; omega) h.le h.rep h.small h.names (h.alloc _).1 (h.alloc _).2)
  have hd1 : (d : Int) + 1 ≤ 100 := by have := h.d8; omega
  have hc1 : (((d + 1 : Nat) : Int)) = (d : Int) + 1 := by omega
  rw [hc1] at hcall
  have hsz : Hid ((w.alloc (givenO u b d)).heap.size = w.heap.size + 1) := World.size_alloc _ _
  unfold givenO at *
  unfold givenV
  unfold V5.v at hcall
  clear hc1 h
  go_enter Tryz.func37, Tryz.ntmps37
  go_wp2_with fail
  refine hcall.out.mono ?_
  rintro e W1 hP
  obtain ⟨a1, l1, c1, rfl, hret⟩ := hP.ret
  have hfin : ∀ v : Value, Hid (RulePost w br m d n 15 t (.returned (.tuple #[.iface 104 v, .int .i64 (schemaS (d + 1) n t).2])) W1) := fun v => by
    have e : ruleS d n 15 t = schemaS (d + 1) n t := by rw [rule_pos]; simp
    refine ⟨hb0.out.trans hP.fr, ?_, ?_, .iface 104 v, ?_, fun _ => ruleR_other (by decide) (by decide) _ _ _⟩
    · rw [e]; exact hP.rd
    · rw [e]; exact hP.le
    · rw [e]
  generalize (schemaS (d + 1) n t).2 = z at hfin ⊢
  clear hP hcall x0 x1 x2 x3 x4 x5 x6 x7 x8 x9 x10 hret
  go_wp2_with fail
  go_ret2
  exact (hfin _).out
set_option maxHeartbeats 4000000 in
set_option maxRecDepth 100000 in
theorem made_any (w0 : World) (br m d n : Nat) (t : Tr) (u b : V5) (w : World) (h : Gv w0 w br m d n t u) (hO : Hid (∀ t' ∈ t.items, SchemaOk w0 t')) :
    Calls Tryz.prog 35 #[.pointer (some ⟨br, 0, none⟩), givenV u b d] w (RulePost w br m d n 13 t) := by
  have hb0 := hid_of ((Fr.refl (fun b => b = br) w).alloc (givenO u b d))
  have hn0 := heap_alloc_new w (givenO u b d)
  have hs := hid_of (several_any u (w.alloc (givenO u b d)))
  have hE0 := hid_of (h.alloc (givenO u b d)).1
  have hR0 := hid_of (h.alloc (givenO u b d)).2
  have hbr := hid_of h.rd.lt
  have hd1 : (d : Int) + 1 ≤ 100 := by have := h.d8; omega
  obtain ⟨hrow, hli⟩ := rep_row h.rep
  have hkd := hid_of (vrep_head h.rep).1
  have hsz : Hid ((w.alloc (givenO u b d)).heap.size = w.heap.size + 1) := World.size_alloc _ _
  have hX0 := hn0
  obtain ⟨x0, x1, x2, x3, x4, x5, x6, x7, x8, x9, x10⟩ := givenO_cells hn0
  obtain ⟨r, hr⟩ : ∃ r, Hid (ruleS d n 13 t = r) := ⟨_, rfl⟩
  have hr2 : Hid ((if t.kind = 5 ∧ t.items ≠ [] then listS (d + 1) n t.items else (n, 210)) = r) := by
    rw [Hid, ← hr.out, rule_pos]; simp
  unfold givenO at *
  unfold givenV
  unfold V5.v at hs
  replace hrow := hid_of hrow
  replace hli := hid_of hli
  go_enter Tryz.func35, Tryz.ntmps35
  go_wp2_with fail
  generalize w.alloc (.cells #[.int .i64 u.k, .int .i64 u.x, .string u.s, .slice u.an u.ln u.cn, .slice u.ai u.li u.ci, .int .i64 b.k, .int .i64 b.x, .string b.s, .slice b.an b.ln b.cn, .slice b.ai b.li b.ci, .int .i64 (d : Int)] 79) = X at *
  refine hs.out.mono ?_
  rintro e W ⟨rfl, hb⟩
  have hbX := hid_of (hb0.out.trans (Fr.of_below hb))
  have hEW := hid_of (hE0.out.fr (Fr.of_below hb))
  have hRW := hid_of (hR0.out.keep hb)
  have t0 := stay hb x0
  have t4 := stay hb x4
  have t10 := stay hb x10
  clear hs x0 x1 x2 x3 x4 x5 x6 x7 x8 x9 x10 hb hb0 hn0 hX0
  by_cases hc : u.k = 5 ∧ 0 < u.li
  · have hc2 : Hid (listS (d + 1) n t.items = r) := by
      rw [Hid, ← hr2.out, if_pos ⟨by rw [hkd.out]; exact hc.1, fun e => by have := hli.out; rw [e] at this; have := hc.2; simp at *; omega⟩]
    rw [decide_eq_true hc]
    clear hc
    have hcall := hid_of (schemas_any w0 t.items hO d n br m u.ai u.ci W h.d8 h.le hrow (hid_of (small_parts h.small).2.2.2.1) (hid_of (names_parts h.names).2) (small_parts h.small).1 hEW hRW)
    rw [← hli.out] at hcall
    clear h
    go_wp2_with fail
    refine hcall.out.mono ?_
    rintro e W1 hP
    obtain ⟨a1, l1, c1, rfl, hret⟩ := hP.ret
    have hfin : ∀ v : Value, Hid (RulePost w br m d n 13 t (.returned (.tuple #[.iface 102 v, .int .i64 (listS (d + 1) n t.items).2])) W1) := fun v => by
      have e : ruleS d n 13 t = listS (d + 1) n t.items := by rw [hr.out, hc2.out]
      refine ⟨hbX.out.trans hP.fr, ?_, ?_, .iface 102 v, ?_, fun _ => ruleR_other (by decide) (by decide) _ _ _⟩
      · rw [e]; exact hP.rd
      · rw [e]; exact hP.le
      · rw [e]
    generalize (listS (d + 1) n t.items).2 = z at hfin ⊢
    clear hP hcall hret t0 t4 t10
    go_wp2_with fail
    go_ret2
    exact (hfin _).out
  · have hc2 : Hid ((n, (210 : Int)) = r) := by
      rw [Hid, ← hr2.out, if_neg]
      rintro ⟨h1, h2⟩
      exact hc ⟨by rw [← hkd.out]; exact h1, by have := hli.out; have : 0 < t.items.length := List.length_pos_iff.2 h2; omega⟩
    rw [decide_eq_false hc]
    have hle := hid_of h.le
    clear hc h
    go_wp2_with fail
    go_ret2
    have e : ruleS d n 13 t = (n, 210) := by rw [hr.out, hc2.out]
    refine ⟨hbX.out, ?_, ?_, .nilIface, ?_, ?_⟩
    · rw [e]; exact hRW.out
    · rw [e]; exact hle.out
    · rw [e]; rfl
    · rw [e]; exact fun h => by cases h
set_option maxHeartbeats 4000000 in
set_option maxRecDepth 100000 in
theorem made_all (w0 : World) (br m d n : Nat) (t : Tr) (u b : V5) (w : World) (h : Gv w0 w br m d n t u) (hO : Hid (∀ t' ∈ t.items, SchemaOk w0 t')) :
    Calls Tryz.prog 36 #[.pointer (some ⟨br, 0, none⟩), givenV u b d] w (RulePost w br m d n 14 t) := by
  have hb0 := hid_of ((Fr.refl (fun b => b = br) w).alloc (givenO u b d))
  have hn0 := heap_alloc_new w (givenO u b d)
  have hs := hid_of (several_any u (w.alloc (givenO u b d)))
  have hE0 := hid_of (h.alloc (givenO u b d)).1
  have hR0 := hid_of (h.alloc (givenO u b d)).2
  have hbr := hid_of h.rd.lt
  have hd1 : (d : Int) + 1 ≤ 100 := by have := h.d8; omega
  obtain ⟨hrow, hli⟩ := rep_row h.rep
  have hkd := hid_of (vrep_head h.rep).1
  have hsz : Hid ((w.alloc (givenO u b d)).heap.size = w.heap.size + 1) := World.size_alloc _ _
  have hX0 := hn0
  obtain ⟨x0, x1, x2, x3, x4, x5, x6, x7, x8, x9, x10⟩ := givenO_cells hn0
  obtain ⟨r, hr⟩ : ∃ r, Hid (ruleS d n 14 t = r) := ⟨_, rfl⟩
  have hr2 : Hid ((if t.kind = 5 ∧ t.items ≠ [] then listS (d + 1) n t.items else (n, 210)) = r) := by
    rw [Hid, ← hr.out, rule_pos]; simp
  unfold givenO at *
  unfold givenV
  unfold V5.v at hs
  replace hrow := hid_of hrow
  replace hli := hid_of hli
  go_enter Tryz.func36, Tryz.ntmps36
  go_wp2_with fail
  generalize w.alloc (.cells #[.int .i64 u.k, .int .i64 u.x, .string u.s, .slice u.an u.ln u.cn, .slice u.ai u.li u.ci, .int .i64 b.k, .int .i64 b.x, .string b.s, .slice b.an b.ln b.cn, .slice b.ai b.li b.ci, .int .i64 (d : Int)] 79) = X at *
  refine hs.out.mono ?_
  rintro e W ⟨rfl, hb⟩
  have hbX := hid_of (hb0.out.trans (Fr.of_below hb))
  have hEW := hid_of (hE0.out.fr (Fr.of_below hb))
  have hRW := hid_of (hR0.out.keep hb)
  have t0 := stay hb x0
  have t4 := stay hb x4
  have t10 := stay hb x10
  clear hs x0 x1 x2 x3 x4 x5 x6 x7 x8 x9 x10 hb hb0 hn0 hX0
  by_cases hc : u.k = 5 ∧ 0 < u.li
  · have hc2 : Hid (listS (d + 1) n t.items = r) := by
      rw [Hid, ← hr2.out, if_pos ⟨by rw [hkd.out]; exact hc.1, fun e => by have := hli.out; rw [e] at this; have := hc.2; simp at *; omega⟩]
    rw [decide_eq_true hc]
    clear hc
    have hcall := hid_of (schemas_any w0 t.items hO d n br m u.ai u.ci W h.d8 h.le hrow (hid_of (small_parts h.small).2.2.2.1) (hid_of (names_parts h.names).2) (small_parts h.small).1 hEW hRW)
    rw [← hli.out] at hcall
    clear h
    go_wp2_with fail
    refine hcall.out.mono ?_
    rintro e W1 hP
    obtain ⟨a1, l1, c1, rfl, hret⟩ := hP.ret
    have hfin : ∀ v : Value, Hid (RulePost w br m d n 14 t (.returned (.tuple #[.iface 103 v, .int .i64 (listS (d + 1) n t.items).2])) W1) := fun v => by
      have e : ruleS d n 14 t = listS (d + 1) n t.items := by rw [hr.out, hc2.out]
      refine ⟨hbX.out.trans hP.fr, ?_, ?_, .iface 103 v, ?_, fun _ => ruleR_other (by decide) (by decide) _ _ _⟩
      · rw [e]; exact hP.rd
      · rw [e]; exact hP.le
      · rw [e]
    generalize (listS (d + 1) n t.items).2 = z at hfin ⊢
    clear hP hcall hret t0 t4 t10
    go_wp2_with fail
    go_ret2
    exact (hfin _).out
  · have hc2 : Hid ((n, (210 : Int)) = r) := by
      rw [Hid, ← hr2.out, if_neg]
      rintro ⟨h1, h2⟩
      exact hc ⟨by rw [← hkd.out]; exact h1, by have := hli.out; have : 0 < t.items.length := List.length_pos_iff.2 h2; omega⟩
    rw [decide_eq_false hc]
    have hle := hid_of h.le
    clear hc h
    go_wp2_with fail
    go_ret2
    have e : ruleS d n 14 t = (n, 210) := by rw [hr.out, hc2.out]
    refine ⟨hbX.out, ?_, ?_, .nilIface, ?_, ?_⟩
    · rw [e]; exact hRW.out
    · rw [e]; exact hle.out
    · rw [e]; rfl
    · rw [e]; exact fun h => by cases h
end Go.Proofs.YtoghaanjdpcodaaGreatDoor
