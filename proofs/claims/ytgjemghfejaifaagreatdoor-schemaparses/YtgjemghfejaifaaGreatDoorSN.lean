import Derived.Test.YtgjemghfejaifaaGreatDoorSM
/-! schema: the maker of properties. -/
namespace Go.Proofs.YtgjemghfejaifaaGreatDoor
open Go Go.RowKit

theorem props_rule {w w1 w2 : World} {br m d n c1 mb : Nat} {t : Tr} {a1 : Option Addr} {L1 : Nat} {X : World} (h6 : t.kind = 6) (hsz : X.heap.size = w.heap.size + 1) (hP : ListPost X br m (d + 1) n t.items (.returned (.tuple #[.slice a1 L1 c1, .int .i64 (listS (d + 1) n t.items).2])) w1) (hret : (listS (d + 1) n t.items).2 = 0 → L1 = t.items.length ∧ (t.items = [] ∨ ∃ b o, a1 = some ⟨b, o, none⟩ ∧ (X.heap.size ≤ b ∧ b < w1.heap.size) ∧ SchemasL w1 (fun k => X.heap.size ≤ k ∧ k < w1.heap.size) b o t.items))
    (hF : Fr (fun b => b = br) w X) (hb : Below w1.heap.size w1 w2) (hm : w1.heap.size ≤ mb) (hN : NumsAt w2 mb t.names.length (numsD t.names)) :
    RulePost w br m d n 3 t (.returned (.tuple #[.iface 105 (.agg #[.map (some mb), .slice a1 L1 c1]), .int .i64 (listS (d + 1) n t.items).2])) w2 := by
  have e : ruleS d n 3 t = listS (d + 1) n t.items := by rw [rule_pos]; simp [h6]
  have hs1 := hP.fr.size
  refine ⟨(hF.trans hP.fr).trans (Fr.of_below hb), ?_, ?_, .iface 105 (.agg #[.map (some mb), .slice a1 L1 c1]), ?_, ?_⟩
  · rw [e]; exact hP.rd.keep hb
  · rw [e]; exact hP.le
  · rw [e]
  · rw [e]
    intro h0
    obtain ⟨hl, hr⟩ := hret h0
    obtain ⟨k, x, s, ns, its⟩ := t
    unfold RuleR
    refine ⟨⟨_, _, rfl⟩, fun _ => ⟨mb, a1, c1, ?_, ⟨by omega, hN.lt⟩, hN, ?_⟩, fun h => by cases h⟩
    · rw [hl]; rfl
    · rcases hr with hr | ⟨b, o, h1, h2, h3⟩
      · exact .inl hr
      · have hsz2 := hb.size
        refine .inr ⟨b, o, h1, ⟨by omega, by omega⟩, SchemasL.keep (fun k hk hlt => hb.block k hlt) (fun k hk => ⟨by omega, by omega⟩) h2 _ _ h3⟩
set_option maxHeartbeats 4000000 in
set_option maxRecDepth 100000 in
theorem made_props (w0 : World) (br m d n : Nat) (t : Tr) (u b : V5) (w : World) (h : Gv w0 w br m d n t u) (hO : Hid (∀ t' ∈ t.items, SchemaOk w0 t')) :
    Calls Tryz.prog 31 #[.pointer (some ⟨br, 0, none⟩), givenV u b d] w (RulePost w br m d n 3 t) := by
  have hb0 := hid_of ((Fr.refl (fun b => b = br) w).alloc (givenO u b d))
  have hE0 := hid_of (h.alloc (givenO u b d)).1
  have hR0 := hid_of (h.alloc (givenO u b d)).2
  have hbr := hid_of h.rd.lt
  have hd1 : (d : Int) + 1 ≤ 100 := by have := h.d8; omega
  obtain ⟨hrow, hli⟩ := rep_row h.rep
  obtain ⟨hnam, hnl⟩ := rep_names h.rep
  have hkd := hid_of (vrep_head h.rep).1
  have hsz : Hid ((w.alloc (givenO u b d)).heap.size = w.heap.size + 1) := World.size_alloc _ _
  obtain ⟨x0, x1, x2, x3, x4, x5, x6, x7, x8, x9, x10⟩ := givenO_cells (heap_alloc_new w (givenO u b d))
  have hcall := hid_of (schemas_any w0 t.items hO d n br m u.ai u.ci (w.alloc (givenO u b d)) h.d8 h.le (hid_of hrow) (hid_of (small_parts h.small).2.2.2.1) (hid_of (names_parts h.names).2) (small_parts h.small).1 hE0 hR0)
  rw [← hli] at hcall
  have hsm := hid_of (small_parts h.small)
  have hle := hid_of h.le
  unfold givenO at *
  unfold givenV
  replace hrow := hid_of hrow
  replace hnam := hid_of hnam
  replace hnl := hid_of hnl
  clear hli h
  go_enter Tryz.func31, Tryz.ntmps31
  by_cases hk : u.k = 6
  · have hb6 : (u.k != 6) = false := by simp [hk]
    have hk6 : Hid (t.kind = 6) := by rw [Hid, hkd.out]; exact hk
    clear hk hkd
    go_wp2_with fail
    generalize w.alloc (.cells #[.int .i64 u.k, .int .i64 u.x, .string u.s, .slice u.an u.ln u.cn, .slice u.ai u.li u.ci, .int .i64 b.k, .int .i64 b.x, .string b.s, .slice b.an b.ln b.cn, .slice b.ai b.li b.ci, .int .i64 (d : Int)] 82) = X at *
    refine hcall.out.mono ?_
    rintro e W1 hP
    obtain ⟨a1, l1, c1, rfl, hret⟩ := hP.ret
    have t3 := hP.fr.cell x3 (by have := hbr.out; show ¬ w.heap.size = br; omega)
    have hE1 := hid_of (hE0.out.fr hP.fr)
    have hnum := hid_of (numbered_any u.an u.cn t.names W1 (hid_of (by rw [← hnl.out]; exact hnam.out.keep hE1.out.old)) (hid_of hsm.out.2.2.1) hsm.out.2.1)
    rw [← hnl.out] at hnum
    have hfin := fun mb w2 hb hm hN => hid_of (props_rule (mb := mb) (w2 := w2) hk6.out hsz.out hP hret hb0.out hb hm hN)
    generalize (listS (d + 1) n t.items).2 = z at hfin ⊢
    clear hP hcall hret x0 x1 x2 x3 x4 x5 x6 x7 x8 x9 x10
    go_wp2_with fail
    refine hnum.out.mono ?_
    rintro e W2 ⟨mb, rfl, hm, hN, hb⟩
    rw [hnl.out] at hN
    replace hfin := hfin mb W2 hb hm hN
    clear hnum hm hN hb
    go_wp2_with fail
    go_ret2
    exact hfin.out
  · have hb6 : (u.k != 6) = true := by simp [hk]
    have e : Hid (ruleS d n 3 t = (n, 210)) := by rw [Hid, rule_pos]; simp [hkd.out, hk]
    clear hk hkd
    go_wp2_with fail
    go_ret2
    refine ⟨hb0.out, ?_, ?_, .nilIface, ?_, ?_⟩
    · rw [e.out]; exact hR0.out
    · rw [e.out]; exact hle.out
    · rw [e.out]; rfl
    · rw [e.out]; exact fun h => by cases h
end Go.Proofs.YtgjemghfejaifaaGreatDoor
