import Derived.Test.YtelmdbfddmpaaaaF3
import Derived.Deep.DeepCutAuto
/-! All is what Get tells, where the way meets no list but by an index: the walk. -/
namespace Go.Proofs.Ytelmdbfddmpaaaa
open Go Go.RowKit

set_option maxHeartbeats 1000000 in
theorem equal_law (t : Tr) (k x : Int) (s : ByteArray) (an : Option Addr) (ln cn : Nat) (ai : Option Addr) (li ci : Nat) (k' x' : Int) (s' : ByteArray) (an' : Option Addr) (ln' cn' : Nat) (ai' : Option Addr) (li' ci' : Nat) (w : World) (hV : VRep w t (five k x s (.slice an ln cn) (.slice ai li ci))) (hV' : VRep w t (five k' x' s' (.slice an' ln' cn') (.slice ai' li' ci'))) :
    Calls Try.prog 12 #[.agg #[.int .i64 k, .int .i64 x, .string s, .slice an ln cn, .slice ai li ci], .agg #[.int .i64 k', .int .i64 x', .string s', .slice an' ln' cn', .slice ai' li' ci']] w fun e w' => e = .returned (.bool true) ∧ Below w.heap.size w w' := by
  have hq := fun o p => hid_f (equal_same t (five k x s (.slice an ln cn) (.slice ai li ci)) (five k' x' s' (.slice an' ln' cn') (.slice ai' li' ci')) ((w.alloc o).alloc p) (VRep.keep (below_two w o p) _ _ hV) (VRep.keep (below_two w o p) _ _ hV'))
  clear hV hV'
  go_enter Try.func12, Try.ntmps12
  go_wp2_with fail
  go_fit (hq _ _).out
  rintro e w1 ⟨rfl, hb⟩
  go_wp2_with fail
  go_ret
  exact ⟨rfl, (below_two w _ _).trans (hb.mono (by simp only [World.size_alloc]; omega))⟩
theorem vrep_kind {W : World} {t : Tr} {k x : Int} {s : ByteArray} {nm it : Value} (h : VRep W t (five k x s nm it)) : t.kind = k := by
  cases t with
  | node k0 x0 s0 ns its =>
    unfold VRep at h
    obtain ⟨_, _, _, e, _⟩ := h
    unfold five at e
    simp at e
    exact e.1.symm
theorem reads_take {W : World} {a : Option Addr} {c : Nat} {l : List ByteArray} (h : Reads W (.slice a l.length c) l) {q : Nat} (hq : q ≤ l.length) : Reads W (.slice a q c) (l.take q) := by
  obtain ⟨a', c', e, hc, hA⟩ := h
  cases e
  have hlen : (l.take q).length = q := by simp; omega
  refine ⟨a, c, by rw [hlen], ⟨by rw [hlen]; omega, hc.2⟩, ?_⟩
  rcases hA with h0 | ⟨b, o, h1, h2, h3⟩
  · exact .inl (by rw [h0]; simp)
  · exact .inr ⟨b, o, h1, h2, fun j s hj => h3 j s (by
      have hjl := (List.getElem?_eq_some_iff.1 hj).1
      rw [List.getElem?_take_of_lt (by omega)] at hj
      exact hj)⟩

set_option maxHeartbeats 1600000 in
set_option maxRecDepth 100000 in
theorem meets_true (k x : Int) (s : ByteArray) (an : Option Addr) (ln cn : Nat) (ai : Option Addr) (li ci : Nat) (t : Tr) (a : Option Addr) (c : Nat) (l : List ByteArray) (w : World) (hV : Hid (VRep w t (five k x s (.slice an ln cn) (.slice ai li ci)))) (hP : Hid (Reads w (.slice a l.length c) l)) (hl : l.length ≤ 9223372036854775806) (hS : Hid (∀ s ∈ l, s.size ≤ 9223372036854775806)) :
    Calls Try.prog 3 #[.agg #[.int .i64 k, .int .i64 x, .string s, .slice an ln cn, .slice ai li ci], .slice a l.length c] w fun e w' => e = .returned (.bool true) ∧ Below w.heap.size w w' := by
  have hlg : ∀ o p, Hid (Calls Try.prog 6 #[.slice (some ⟨w.heap.size + 1, 0, none⟩) 1 1] ((w.alloc o).alloc (.cells #[.int .i64 k, .int .i64 x, .string s, .slice an ln cn, .slice ai li ci] p)) fun e w' => (∃ z, e = .returned (.bool z)) ∧ Below ((w.alloc o).alloc (.cells #[.int .i64 k, .int .i64 x, .string s, .slice an ln cn, .slice ai li ci] p)).heap.size ((w.alloc o).alloc (.cells #[.int .i64 k, .int .i64 x, .string s, .slice an ln cn, .slice ai li ci] p)) w') := fun o p => hid_f (large_any [t] (w.heap.size + 1) 0 1 ((w.alloc o).alloc (.cells #[.int .i64 k, .int .i64 x, .string s, .slice an ln cn, .slice ai li ci] p)) (by simp) (fun _ => by simp) (hid_f (by
    unfold VRepL VRepL
    refine ⟨(five k x s (.slice an ln cn) (.slice ai li ci)), fun j u hj => ?_, VRep.keep (below_two w _ _) _ _ hV.out, trivial⟩
    rw [Nat.zero_add]
    unfold World.cell?
    rw [new2 w o (.cells #[.int .i64 k, .int .i64 x, .string s, .slice an ln cn, .slice ai li ci] p)]
    simpa [five] using hj)))
  have hrg := fun W (hW : Below w.heap.size w W) q (hq : q ≤ l.length) => hid_f (rget_any w (l.take q) t (five k x s (.slice an ln cn) (.slice ai li ci)) (.slice a q c) W hW hV.out (reads_take hP.out hq) (fun s hs => hS.out s (List.mem_of_mem_take hs)))
  go_enter Try.func3, Try.ntmps3
  go_wp2_with fail
  go_fit (hlg _ _).out
  rintro e X ⟨⟨z, rfl⟩, hb⟩
  have HB : Below w.heap.size w X := (below_two w _ _).trans (hb.mono (by simp only [World.size_alloc]; omega))
  have h0 : X.heap[w.heap.size]? = some (.cells #[.int .i64 k, .int .i64 x, .string s, .slice an ln cn, .slice ai li ci] 25 (0, 0)) := (hb.block _ (by simp only [World.size_alloc]; omega)).trans (new1 w _ _)
  clear hb hlg
  cases z
  · by_cases h1000 : 1000 < l.length
    · have hd0 : decide ((1000 : Int) < (l.length : Int)) = true := by simp; omega
      go_wp2_with fail
      refine (live_true _).mono ?_
      rintro e w9 ⟨rfl, hb9⟩
      go_wp2_with fail
      go_ret
      exact ⟨rfl, HB.trans (hb9.mono HB.size)⟩
    · have hd0 : decide ((1000 : Int) < (l.length : Int)) = false := by simp; omega
      go_wp2_with fail
      clear hd0
      go_loopw [5] (fun i wr => ∃ q : Nat, q ≤ l.length ∧ i = .int .i64 q ∧ Below w.heap.size w wr ∧ wr.heap[w.heap.size]? = some (.cells #[.int .i64 k, .int .i64 x, .string s, .slice an ln cn, .slice ai li ci] 25 (0, 0)) ∧ Hid (∀ m, m < q → ∀ (u : Tr) (s : ByteArray), getT t (l.take m) = some u → l[m]? = some s → spreadB u.kind s = false)) (fun i _ => l.length - (intOf i).toNat)
      case atStart => exact ⟨0, Nat.zero_le _, rfl, HB, h0, fun m h => by omega⟩
      case round =>
        clear HB h0
        obtain ⟨q, hq, rfl, HB, h0, hNB⟩ := hrel
        by_cases hlt : q < l.length
        · have hd : decide ((q : Int) < (l.length : Int)) = true := by simp; omega
          obtain ⟨sg, hsg⟩ : ∃ sg, Hid (l[q]? = some sg) := ⟨_, List.getElem?_eq_getElem hlt⟩
          obtain ⟨_, _, e, hcc, hR⟩ := hP.out
          cases e
          obtain ⟨b, o, rfl, hbl, hR⟩ := hR.resolve_left (by intro e; subst e; simp at hlt)
          have hc0 := hR q sg hsg.out
          clear hR
          have hri := hid_f (fun W => rindex_any sg (hS.out sg (List.mem_of_getElem? hsg.out)) W)
          obtain ⟨rr, hrr⟩ : ∃ rr, Hid (getT t (l.take q) = rr) := ⟨_, rfl⟩
          have hget := fun W hW => hid_f ((hrg W hW q hq).out)
          rw [hrr.out] at hget
          have i1 : (q : Int) < (l.length : Int) := by omega
          have i2 : (0 : Int) ≤ (q : Int) := by omega
          have i3 : (q : Int) ≤ (c : Int) := by omega
          go_wp2_with fail
          replace HB : Below w.heap.size w wr.drew := below_drew HB
          replace h0 : wr.drew.heap[w.heap.size]? = some (.cells #[.int .i64 k, .int .i64 x, .string s, .slice an ln cn, .slice ai li ci] 25 (0, 0)) := h0
          generalize hX : wr.drew = X at HB h0
          refine wp_region_noPanic ?_
          refine Until.wp_region_U (fun w' => w'.heap[w.heap.size]? = some (.cells #[.int .i64 k, .int .i64 x, .string s, .slice an ln cn, .slice ai li ci] 25 (0, 0))) (fun _ => True) 9 (by kernel_rfl) ?_
          rw [hX]
          clear hX
          refine Until.wpU_load0 (i := 0) (oi := { dst := some 29, op := Op.load 25 (Operand.tmp 2), type := 25, pos := "law.go:335", after := #[], guard := none }) (v := .agg #[.int .i64 k, .int .i64 x, .string s, .slice an ln cn, .slice ai li ci]) rfl (by kernel_rfl) (by kernel_rfl) (by kernel_rfl) (by kernel_rfl) (by kernel_rfl) (fun _ _ _ h => h) (h0) (fun _ => trivial) (by rfl) (by intro w' hw'; obtain ⟨t0, t1, t2, t3, t4, -⟩ := row_cells hw'; clear hw'; go_simp) ?_
          try simp only [Act.put, List.setIfInBounds_toArray, List.set_cons_zero, List.set_cons_succ]
          refine Until.wpU_pure (i := 1) (oi := { dst := some 30, op := Op.move (Operand.tmp 1), type := 22, pos := "law.go:335", after := #[], guard := none }) (v := .slice (some ⟨b, o, none⟩) l.length c) rfl (by kernel_rfl) (by kernel_rfl) (by kernel_rfl) (by kernel_rfl) (by kernel_rfl) (fun _ _ _ h => h) (h0) (fun _ => trivial) (by rfl) (by intro w'; go_simp) ?_
          try simp only [Act.put, List.setIfInBounds_toArray, List.set_cons_zero, List.set_cons_succ]
          refine Until.wpU_pure (i := 2) (oi := { dst := some 31, op := Op.move (Operand.tmp 5), type := 3, pos := "law.go:335", after := #[], guard := none }) (v := .int .i64 q) rfl (by kernel_rfl) (by kernel_rfl) (by kernel_rfl) (by kernel_rfl) (by kernel_rfl) (fun _ _ _ h => h) (h0) (fun _ => trivial) (by rfl) (by intro w'; go_simp) ?_
          try simp only [Act.put, List.setIfInBounds_toArray, List.set_cons_zero, List.set_cons_succ]
          refine Until.wpU_pure (i := 3) (oi := { dst := some 32, op := Op.slice 22 (Operand.tmp 30) none (some (Operand.tmp 31)) none, type := 22, pos := "law.go:335", after := #[{ on := 1, ground := Ground.data }, { on := 2, ground := Ground.data }], guard := none }) (v := .slice (some ⟨b, o, none⟩) q c) rfl (by kernel_rfl) (by kernel_rfl) (by kernel_rfl) (by kernel_rfl) (by kernel_rfl) (fun _ _ _ h => h) (h0) (fun _ => trivial) (by rfl) (by intro w'; go_simp) ?_
          try simp only [Act.put, List.setIfInBounds_toArray, List.set_cons_zero, List.set_cons_succ]
          refine Until.wpU_ready (rs := [4, 8]) (by kernel_rfl) (by simp) ?_
          refine (Until.AllU.cons (o := { dst := some 33, op := Op.call { callee := Callee.value (Operand.func 8), args := #[Operand.tmp 29, Operand.tmp 32], argTypes := #[25, 22] }, type := 28, pos := "law.go:335", after := #[{ on := 0, ground := Ground.data }, { on := 3, ground := Ground.data }], guard := none }) rfl (fun K hK => ?_) (Until.AllU.cons (o := { dst := some 6, op := Op.alloc 25, type := 0, pos := "law.go:335", after := #[], guard := none }) rfl (fun K hK => ?_) Until.AllU.nil))
          · go_simp
            refine (hget X HB).out.mono ?_
            rintro e Z ⟨hb2, k3, x3, s3, an3, ln3, cn3, ai3, li3, ci3, rfl, hfin⟩
            replace hfin := hid_f hfin
            have d0 := (hb2.block _ (Array.getElem?_eq_some_iff.1 h0).1).trans h0
            have DB : Below w.heap.size w Z := HB.trans (hb2.mono HB.size)
            refine hK.out _ _ d0 (fun _ => trivial) ?_
            clear hK K hb2 HB h0 hget
            try simp only [Act.put, List.setIfInBounds_toArray, List.set_cons_zero, List.set_cons_succ]
            refine Until.wpU_pure (i := 5) (oi := { dst := some 28, op := Op.move (Operand.tmp 33), type := 28, pos := "law.go:335", after := #[{ on := 4, ground := Ground.data }], guard := none }) (v := .tuple #[.agg #[.int .i64 k3, .int .i64 x3, .string s3, .slice an3 ln3 cn3, .slice ai3 li3 ci3], .bool rr.isSome]) rfl (by kernel_rfl) (by kernel_rfl) (by kernel_rfl) (by kernel_rfl) (by kernel_rfl) (fun _ _ _ h => h) (d0) (fun _ => trivial) (by rfl) (by intro w'; go_simp) ?_
            try simp only [Act.put, List.setIfInBounds_toArray, List.set_cons_zero, List.set_cons_succ]
            refine Until.wpU_pure (i := 6) (oi := { dst := some 34, op := Op.extract (Operand.tmp 28) 0, type := 25, pos := "law.go:335", after := #[{ on := 5, ground := Ground.data }], guard := none }) (v := .agg #[.int .i64 k3, .int .i64 x3, .string s3, .slice an3 ln3 cn3, .slice ai3 li3 ci3]) rfl (by kernel_rfl) (by kernel_rfl) (by kernel_rfl) (by kernel_rfl) (by kernel_rfl) (fun _ _ _ h => h) (d0) (fun _ => trivial) (by rfl) (by intro w'; go_simp) ?_
            try simp only [Act.put, List.setIfInBounds_toArray, List.set_cons_zero, List.set_cons_succ]
            refine Until.wpU_pure (i := 7) (oi := { dst := some 35, op := Op.extract (Operand.tmp 28) 1, type := 4, pos := "law.go:335", after := #[{ on := 5, ground := Ground.data }, { on := 9, ground := Ground.gcOnly Departure.lateStores }], guard := none }) (v := .bool rr.isSome) rfl (by kernel_rfl) (by kernel_rfl) (by kernel_rfl) (by kernel_rfl) (by kernel_rfl) (fun _ _ _ h => h) (d0) (fun _ => trivial) (by rfl) (by intro w'; go_simp) ?_
            try simp only [Act.put, List.setIfInBounds_toArray, List.set_cons_zero, List.set_cons_succ]
            refine Until.wpU_ready (rs := [8]) (by kernel_rfl) (by simp) ?_
            refine (Until.AllU.cons (o := { dst := some 6, op := Op.alloc 25, type := 0, pos := "law.go:335", after := #[], guard := none }) rfl (fun K hK => ?_) Until.AllU.nil)
            go_simp
            have hZs : w.heap.size < Z.heap.size := (Array.getElem?_eq_some_iff.1 d0).1
            replace DB : Below w.heap.size w (Z.alloc (.cells #[.int .i64 0, .int .i64 0, .string ⟨#[]⟩, .slice none 0 0, .slice none 0 0] 25)) := DB.alloc DB.size _
            have dz := heap_alloc_new Z (.cells #[.int .i64 0, .int .i64 0, .string ⟨#[]⟩, .slice none 0 0, .slice none 0 0] 25)
            replace d0 := (Below.heap_alloc Z (.cells #[.int .i64 0, .int .i64 0, .string ⟨#[]⟩, .slice none 0 0, .slice none 0 0] 25) _ hZs).trans d0
            refine hK.out _ _ d0 (fun _ => trivial) ?_
            clear hK K
            try simp only [Act.put, List.setIfInBounds_toArray, List.set_cons_zero, List.set_cons_succ]
            generalize Z.alloc (.cells #[.int .i64 0, .int .i64 0, .string ⟨#[]⟩, .slice none 0 0, .slice none 0 0] 25) = Z2 at d0 dz DB ⊢
            obtain ⟨gx, hgx⟩ : ∃ g, Z.heap.size = g := ⟨_, rfl⟩
            rw [hgx] at dz hZs
            rw [hgx]
            clear hgx
            obtain ⟨z0, z1, z2, z3, z4, zf⟩ := row_cells dz
            have zf0 := zf 0; have zf1 := zf 1; have zf2 := zf 2; have zf3 := zf 3; have zf4 := zf 4
            clear zf
            refine Until.wpU_ready (rs := [9]) (by kernel_rfl) (by simp) ?_
            refine (Until.AllU.cons (o := { dst := none, op := Op.store 25 (Operand.tmp 6) (Operand.tmp 34), type := 0, pos := "law.go:335", after := #[{ on := 8, ground := Ground.data }, { on := 6, ground := Ground.data }, { on := 4, ground := Ground.chain }, { on := 0, ground := Ground.phase }, { on := 1, ground := Ground.phase }, { on := 2, ground := Ground.phase }, { on := 3, ground := Ground.phase }, { on := 4, ground := Ground.phase }, { on := 5, ground := Ground.phase }, { on := 6, ground := Ground.phase }, { on := 7, ground := Ground.textOnly Departure.lateStores }, { on := 8, ground := Ground.phase }], guard := none }) rfl (fun K hK => ?_) Until.AllU.nil)
            go_simp
            have e0 := (put5_far (w := Z2) (g := gx) (.int .i64 k3) (.int .i64 x3) (.string s3) (.slice an3 ln3 cn3) (.slice ai3 li3 ci3) (show w.heap.size ≠ gx by omega)).trans d0
            have ez := put5_at dz (.int .i64 k3) (.int .i64 x3) (.string s3) (.slice an3 ln3 cn3) (.slice ai3 li3 ci3)
            have EB : Below w.heap.size w (put5 Z2 gx (.int .i64 k3) (.int .i64 x3) (.string s3) (.slice an3 ln3 cn3) (.slice ai3 li3 ci3)) := DB.trans (put5_below (by omega) _ _ _ _ _)
            refine hK.out _ _ e0 (fun _ => trivial) ?_
            clear hK K z0 z1 z2 z3 z4 zf0 zf1 zf2 zf3 zf4
            try simp only [Act.put, List.setIfInBounds_toArray, List.set_cons_zero, List.set_cons_succ]
            refine Until.wpU_ready (rs := [10]) (by kernel_rfl) (by simp) ?_
            refine (Until.AllU.cons (o := { dst := some 7, op := Op.assign (Operand.tmp 35), type := 4, pos := "law.go:335", after := #[{ on := 7, ground := Ground.data }, { on := 9, ground := Ground.chain }, { on := 0, ground := Ground.phase }, { on := 1, ground := Ground.phase }, { on := 2, ground := Ground.phase }, { on := 3, ground := Ground.phase }, { on := 4, ground := Ground.phase }, { on := 5, ground := Ground.phase }, { on := 6, ground := Ground.phase }, { on := 7, ground := Ground.phase }, { on := 8, ground := Ground.phase }, { on := 9, ground := Ground.phase }], guard := none }) rfl (fun K hK => ?_) Until.AllU.nil)
            go_simp
            refine hK.out _ _ e0 (fun _ => trivial) ?_
            clear hK K
            try simp only [Act.put, List.setIfInBounds_toArray, List.set_cons_zero, List.set_cons_succ]
            refine Until.wpU_done (by kernel_rfl) ?_ _
            refine NoPanic.normal ?_
            generalize hW2 : put5 Z2 gx (.int .i64 k3) (.int .i64 x3) (.string s3) (.slice an3 ln3 cn3) (.slice ai3 li3 ci3) = Q at e0 ez EB
            unfold put5 at hW2
            rw [hW2]
            clear hW2 d0 dz DB
            obtain ⟨v0, -, -, -, -, -⟩ := row_cells ez
            have c1 := stay EB hc0
            cases hix : idx sg with
            | none =>
              have hri' := hid_f (fun W => hri.out W)
              unfold idxV at hri'
              rw [hix] at hri'
              cases rr with
              | none =>
                go_wp2_with fail
                refine (hri'.out _).mono ?_
                rintro e w5 ⟨rfl, rfl⟩
                go_wp2_with fail
                go_roundw
                case rel => exact ⟨q + 1, by omega, by simp, EB, e0, fun m hm u s hu hs => by
                    by_cases em : m = q
                    · subst em
                      have es : sg = s := Option.some.inj (hsg.out.symm.trans hs)
                      subst es
                      rw [hrr.out] at hu; cases hu
                    · exact hNB.out m (by omega) u s hu hs⟩
                case measure => simp [intOf]; omega
              | some u0 =>
                have hkd : u0.kind = k3 := vrep_kind (hfin.out u0 rfl)
                by_cases h5 : k3 = 5
                · subst h5
                  go_wp2_with fail
                  refine (hri'.out _).mono ?_
                  rintro e w5 ⟨rfl, rfl⟩
                  go_wp2_with fail
                  refine (live_true _).mono ?_
                  rintro e w9 ⟨rfl, hb9⟩
                  go_wp2_with fail
                  go_ret
                  exact ⟨rfl, EB.trans (hb9.mono EB.size)⟩
                · have e5 : (k3 == 5) = false := by simpa using h5
                  go_wp2_with fail
                  refine (hri'.out _).mono ?_
                  rintro e w5 ⟨rfl, rfl⟩
                  go_wp2_with fail
                  go_roundw
                  case rel => exact ⟨q + 1, by omega, by simp, EB, e0, fun m hm u s hu hs => by
                      by_cases em : m = q
                      · subst em
                        have es : sg = s := Option.some.inj (hsg.out.symm.trans hs)
                        subst es
                        rw [hrr.out] at hu; cases hu; unfold spreadB; rw [hkd]; simp [h5]
                      · exact hNB.out m (by omega) u s hu hs⟩
                  case measure => simp [intOf]; omega
            | some zz =>
              have hri' := hid_f (fun W => hri.out W)
              unfold idxV at hri'
              rw [hix] at hri'
              cases rr with
              | none =>
                go_wp2_with fail
                refine (hri'.out _).mono ?_
                rintro e w5 ⟨rfl, rfl⟩
                go_wp2_with fail
                go_roundw
                case rel => exact ⟨q + 1, by omega, by simp, EB, e0, fun m hm u s hu hs => by
                    by_cases em : m = q
                    · subst em
                      have es : sg = s := Option.some.inj (hsg.out.symm.trans hs)
                      subst es
                      rw [hrr.out] at hu; cases hu
                    · exact hNB.out m (by omega) u s hu hs⟩
                case measure => simp [intOf]; omega
              | some u0 =>
                have hkd : u0.kind = k3 := vrep_kind (hfin.out u0 rfl)
                by_cases h5 : k3 = 5
                · subst h5
                  go_wp2_with fail
                  refine (hri'.out _).mono ?_
                  rintro e w5 ⟨rfl, rfl⟩
                  go_wp2_with fail
                  go_roundw
                  case rel => exact ⟨q + 1, by omega, by simp, EB, e0, fun m hm u s hu hs => by
                      by_cases em : m = q
                      · subst em
                        have es : sg = s := Option.some.inj (hsg.out.symm.trans hs)
                        subst es
                        rw [hrr.out] at hu; cases hu; unfold spreadB; simp [hix]
                      · exact hNB.out m (by omega) u s hu hs⟩
                  case measure => simp [intOf]; omega
                · have e5 : (k3 == 5) = false := by simpa using h5
                  go_wp2_with fail
                  refine (hri'.out _).mono ?_
                  rintro e w5 ⟨rfl, rfl⟩
                  go_wp2_with fail
                  go_roundw
                  case rel => exact ⟨q + 1, by omega, by simp, EB, e0, fun m hm u s hu hs => by
                      by_cases em : m = q
                      · subst em
                        have es : sg = s := Option.some.inj (hsg.out.symm.trans hs)
                        subst es
                        rw [hrr.out] at hu; cases hu; unfold spreadB; rw [hkd]; simp [h5]
                      · exact hNB.out m (by omega) u s hu hs⟩
                  case measure => simp [intOf]; omega
          · go_simp
            have hXs : w.heap.size < X.heap.size := (Array.getElem?_eq_some_iff.1 h0).1
            replace HB : Below w.heap.size w (X.alloc (.cells #[.int .i64 0, .int .i64 0, .string ⟨#[]⟩, .slice none 0 0, .slice none 0 0] 25)) := HB.alloc HB.size _
            have dz := heap_alloc_new X (.cells #[.int .i64 0, .int .i64 0, .string ⟨#[]⟩, .slice none 0 0, .slice none 0 0] 25)
            replace h0 := (Below.heap_alloc X (.cells #[.int .i64 0, .int .i64 0, .string ⟨#[]⟩, .slice none 0 0, .slice none 0 0] 25) _ hXs).trans h0
            refine hK.out _ _ h0 (fun _ => trivial) ?_
            clear hK K
            try simp only [Act.put, List.setIfInBounds_toArray, List.set_cons_zero, List.set_cons_succ]
            refine Until.wpU_ready (rs := [4]) (by kernel_rfl) (by simp) ?_
            refine (Until.AllU.cons (o := { dst := some 33, op := Op.call { callee := Callee.value (Operand.func 8), args := #[Operand.tmp 29, Operand.tmp 32], argTypes := #[25, 22] }, type := 28, pos := "law.go:335", after := #[{ on := 0, ground := Ground.data }, { on := 3, ground := Ground.data }], guard := none }) rfl (fun K hK => ?_) Until.AllU.nil)
            go_simp
            refine (hget _ HB).out.mono ?_
            rintro e Z ⟨hb2, k3, x3, s3, an3, ln3, cn3, ai3, li3, ci3, rfl, hfin⟩
            replace hfin := hid_f hfin
            have d0 := (hb2.block _ (Array.getElem?_eq_some_iff.1 h0).1).trans h0
            have DB : Below w.heap.size w Z := HB.trans (hb2.mono HB.size)
            replace dz := (hb2.block _ (by simp only [World.size_alloc]; omega)).trans dz
            refine hK.out _ _ d0 (fun _ => trivial) ?_
            clear hK K hb2 HB h0 hget
            try simp only [Act.put, List.setIfInBounds_toArray, List.set_cons_zero, List.set_cons_succ]
            refine Until.wpU_pure (i := 5) (oi := { dst := some 28, op := Op.move (Operand.tmp 33), type := 28, pos := "law.go:335", after := #[{ on := 4, ground := Ground.data }], guard := none }) (v := .tuple #[.agg #[.int .i64 k3, .int .i64 x3, .string s3, .slice an3 ln3 cn3, .slice ai3 li3 ci3], .bool rr.isSome]) rfl (by kernel_rfl) (by kernel_rfl) (by kernel_rfl) (by kernel_rfl) (by kernel_rfl) (fun _ _ _ h => h) (d0) (fun _ => trivial) (by rfl) (by intro w'; go_simp) ?_
            try simp only [Act.put, List.setIfInBounds_toArray, List.set_cons_zero, List.set_cons_succ]
            refine Until.wpU_pure (i := 6) (oi := { dst := some 34, op := Op.extract (Operand.tmp 28) 0, type := 25, pos := "law.go:335", after := #[{ on := 5, ground := Ground.data }], guard := none }) (v := .agg #[.int .i64 k3, .int .i64 x3, .string s3, .slice an3 ln3 cn3, .slice ai3 li3 ci3]) rfl (by kernel_rfl) (by kernel_rfl) (by kernel_rfl) (by kernel_rfl) (by kernel_rfl) (fun _ _ _ h => h) (d0) (fun _ => trivial) (by rfl) (by intro w'; go_simp) ?_
            try simp only [Act.put, List.setIfInBounds_toArray, List.set_cons_zero, List.set_cons_succ]
            refine Until.wpU_pure (i := 7) (oi := { dst := some 35, op := Op.extract (Operand.tmp 28) 1, type := 4, pos := "law.go:335", after := #[{ on := 5, ground := Ground.data }, { on := 9, ground := Ground.gcOnly Departure.lateStores }], guard := none }) (v := .bool rr.isSome) rfl (by kernel_rfl) (by kernel_rfl) (by kernel_rfl) (by kernel_rfl) (by kernel_rfl) (fun _ _ _ h => h) (d0) (fun _ => trivial) (by rfl) (by intro w'; go_simp) ?_
            try simp only [Act.put, List.setIfInBounds_toArray, List.set_cons_zero, List.set_cons_succ]
            obtain ⟨gx, hgx⟩ : ∃ g, X.heap.size = g := ⟨_, rfl⟩
            rw [hgx] at dz hXs
            rw [hgx]
            clear hgx
            obtain ⟨z0, z1, z2, z3, z4, zf⟩ := row_cells dz
            have zf0 := zf 0; have zf1 := zf 1; have zf2 := zf 2; have zf3 := zf 3; have zf4 := zf 4
            clear zf
            refine Until.wpU_ready (rs := [9]) (by kernel_rfl) (by simp) ?_
            refine (Until.AllU.cons (o := { dst := none, op := Op.store 25 (Operand.tmp 6) (Operand.tmp 34), type := 0, pos := "law.go:335", after := #[{ on := 8, ground := Ground.data }, { on := 6, ground := Ground.data }, { on := 4, ground := Ground.chain }, { on := 0, ground := Ground.phase }, { on := 1, ground := Ground.phase }, { on := 2, ground := Ground.phase }, { on := 3, ground := Ground.phase }, { on := 4, ground := Ground.phase }, { on := 5, ground := Ground.phase }, { on := 6, ground := Ground.phase }, { on := 7, ground := Ground.textOnly Departure.lateStores }, { on := 8, ground := Ground.phase }], guard := none }) rfl (fun K hK => ?_) Until.AllU.nil)
            go_simp
            have e0 := (put5_far (w := Z) (g := gx) (.int .i64 k3) (.int .i64 x3) (.string s3) (.slice an3 ln3 cn3) (.slice ai3 li3 ci3) (show w.heap.size ≠ gx by omega)).trans d0
            have ez := put5_at dz (.int .i64 k3) (.int .i64 x3) (.string s3) (.slice an3 ln3 cn3) (.slice ai3 li3 ci3)
            have EB : Below w.heap.size w (put5 Z gx (.int .i64 k3) (.int .i64 x3) (.string s3) (.slice an3 ln3 cn3) (.slice ai3 li3 ci3)) := DB.trans (put5_below (by omega) _ _ _ _ _)
            refine hK.out _ _ e0 (fun _ => trivial) ?_
            clear hK K z0 z1 z2 z3 z4 zf0 zf1 zf2 zf3 zf4
            try simp only [Act.put, List.setIfInBounds_toArray, List.set_cons_zero, List.set_cons_succ]
            refine Until.wpU_ready (rs := [10]) (by kernel_rfl) (by simp) ?_
            refine (Until.AllU.cons (o := { dst := some 7, op := Op.assign (Operand.tmp 35), type := 4, pos := "law.go:335", after := #[{ on := 7, ground := Ground.data }, { on := 9, ground := Ground.chain }, { on := 0, ground := Ground.phase }, { on := 1, ground := Ground.phase }, { on := 2, ground := Ground.phase }, { on := 3, ground := Ground.phase }, { on := 4, ground := Ground.phase }, { on := 5, ground := Ground.phase }, { on := 6, ground := Ground.phase }, { on := 7, ground := Ground.phase }, { on := 8, ground := Ground.phase }, { on := 9, ground := Ground.phase }], guard := none }) rfl (fun K hK => ?_) Until.AllU.nil)
            go_simp
            refine hK.out _ _ e0 (fun _ => trivial) ?_
            clear hK K
            try simp only [Act.put, List.setIfInBounds_toArray, List.set_cons_zero, List.set_cons_succ]
            refine Until.wpU_done (by kernel_rfl) ?_ _
            refine NoPanic.normal ?_
            generalize hW2 : put5 Z gx (.int .i64 k3) (.int .i64 x3) (.string s3) (.slice an3 ln3 cn3) (.slice ai3 li3 ci3) = Q at e0 ez EB
            unfold put5 at hW2
            rw [hW2]
            clear hW2 d0 dz DB
            obtain ⟨v0, -, -, -, -, -⟩ := row_cells ez
            have c1 := stay EB hc0
            cases hix : idx sg with
            | none =>
              have hri' := hid_f (fun W => hri.out W)
              unfold idxV at hri'
              rw [hix] at hri'
              cases rr with
              | none =>
                go_wp2_with fail
                refine (hri'.out _).mono ?_
                rintro e w5 ⟨rfl, rfl⟩
                go_wp2_with fail
                go_roundw
                case rel => exact ⟨q + 1, by omega, by simp, EB, e0, fun m hm u s hu hs => by
                    by_cases em : m = q
                    · subst em
                      have es : sg = s := Option.some.inj (hsg.out.symm.trans hs)
                      subst es
                      rw [hrr.out] at hu; cases hu
                    · exact hNB.out m (by omega) u s hu hs⟩
                case measure => simp [intOf]; omega
              | some u0 =>
                have hkd : u0.kind = k3 := vrep_kind (hfin.out u0 rfl)
                by_cases h5 : k3 = 5
                · subst h5
                  go_wp2_with fail
                  refine (hri'.out _).mono ?_
                  rintro e w5 ⟨rfl, rfl⟩
                  go_wp2_with fail
                  refine (live_true _).mono ?_
                  rintro e w9 ⟨rfl, hb9⟩
                  go_wp2_with fail
                  go_ret
                  exact ⟨rfl, EB.trans (hb9.mono EB.size)⟩
                · have e5 : (k3 == 5) = false := by simpa using h5
                  go_wp2_with fail
                  refine (hri'.out _).mono ?_
                  rintro e w5 ⟨rfl, rfl⟩
                  go_wp2_with fail
                  go_roundw
                  case rel => exact ⟨q + 1, by omega, by simp, EB, e0, fun m hm u s hu hs => by
                      by_cases em : m = q
                      · subst em
                        have es : sg = s := Option.some.inj (hsg.out.symm.trans hs)
                        subst es
                        rw [hrr.out] at hu; cases hu; unfold spreadB; rw [hkd]; simp [h5]
                      · exact hNB.out m (by omega) u s hu hs⟩
                  case measure => simp [intOf]; omega
            | some zz =>
              have hri' := hid_f (fun W => hri.out W)
              unfold idxV at hri'
              rw [hix] at hri'
              cases rr with
              | none =>
                go_wp2_with fail
                refine (hri'.out _).mono ?_
                rintro e w5 ⟨rfl, rfl⟩
                go_wp2_with fail
                go_roundw
                case rel => exact ⟨q + 1, by omega, by simp, EB, e0, fun m hm u s hu hs => by
                    by_cases em : m = q
                    · subst em
                      have es : sg = s := Option.some.inj (hsg.out.symm.trans hs)
                      subst es
                      rw [hrr.out] at hu; cases hu
                    · exact hNB.out m (by omega) u s hu hs⟩
                case measure => simp [intOf]; omega
              | some u0 =>
                have hkd : u0.kind = k3 := vrep_kind (hfin.out u0 rfl)
                by_cases h5 : k3 = 5
                · subst h5
                  go_wp2_with fail
                  refine (hri'.out _).mono ?_
                  rintro e w5 ⟨rfl, rfl⟩
                  go_wp2_with fail
                  go_roundw
                  case rel => exact ⟨q + 1, by omega, by simp, EB, e0, fun m hm u s hu hs => by
                      by_cases em : m = q
                      · subst em
                        have es : sg = s := Option.some.inj (hsg.out.symm.trans hs)
                        subst es
                        rw [hrr.out] at hu; cases hu; unfold spreadB; simp [hix]
                      · exact hNB.out m (by omega) u s hu hs⟩
                  case measure => simp [intOf]; omega
                · have e5 : (k3 == 5) = false := by simpa using h5
                  go_wp2_with fail
                  refine (hri'.out _).mono ?_
                  rintro e w5 ⟨rfl, rfl⟩
                  go_wp2_with fail
                  go_roundw
                  case rel => exact ⟨q + 1, by omega, by simp, EB, e0, fun m hm u s hu hs => by
                      by_cases em : m = q
                      · subst em
                        have es : sg = s := Option.some.inj (hsg.out.symm.trans hs)
                        subst es
                        rw [hrr.out] at hu; cases hu; unfold spreadB; rw [hkd]; simp [h5]
                      · exact hNB.out m (by omega) u s hu hs⟩
                  case measure => simp [intOf]; omega
        · have hd : decide ((q : Int) < (l.length : Int)) = false := by simp; omega
          have hNo : Hid (NoBad t l) := fun m u s hu hs => hNB.out m (by have := (List.getElem?_eq_some_iff.1 hs).1; omega) u s hu hs
          clear hNB hrg
          obtain ⟨G, hG⟩ : ∃ G, Hid (getT t l = G) := ⟨_, rfl⟩
          have hgt := hid_f (get_any t (five k x s (.slice an ln cn) (.slice ai li ci)) (.slice a l.length c) l wr (VRep.keep HB _ _ hV.out) (hP.out.keep HB) hl hS)
          have hal := fun W (hW : Below w.heap.size w W) => hid_f (all_meets t k x s an ln cn ai li ci a c l W (hid_f (VRep.keep hW _ _ hV.out)) (hid_f (hP.out.keep hW)) hl hS hNo)
          rw [hG.out] at hgt hal
          obtain ⟨y0, y1, y2, y3, y4, -⟩ := row_cells h0
          go_wp2_with fail
          clear y0 y1 y2 y3 y4
          go_fit hgt.out
          rintro e Y ⟨hb, hgot⟩
          have HY : Below w.heap.size w Y := HB.trans (hb.mono HB.size)
          have hY0 := (hb.block _ (Array.getElem?_eq_some_iff.1 h0).1).trans h0
          have hYs : w.heap.size < Y.heap.size := (Array.getElem?_eq_some_iff.1 hY0).1
          clear hb HB h0 hgt
          cases G with
          | none =>
            simp only at hgot
            subst hgot
            unfold zeroV
            have hZ0 := (Below.heap_alloc Y (.cells #[.int .i64 0, .int .i64 0, .string ⟨#[]⟩, .slice none 0 0, .slice none 0 0] 25) _ hYs).trans hY0
            have HZ := HY.alloc HY.size (.cells #[.int .i64 0, .int .i64 0, .string ⟨#[]⟩, .slice none 0 0, .slice none 0 0] 25)
            obtain ⟨y0, y1, y2, y3, y4, -⟩ := row_cells hZ0
            go_wp2_with fail
            clear y0 y1 y2 y3 y4
            go_fit (hal _ HZ).out
            rintro e Z ⟨hb, hall⟩
            simp only at hall
            subst hall
            have HQ : Below w.heap.size w Z := HZ.trans (hb.mono HZ.size)
            go_wp2_with fail
            refine (live_true _).mono ?_
            rintro e w9 ⟨rfl, hb9⟩
            go_wp2_with fail
            go_ret
            exact ⟨rfl, HQ.trans (hb9.mono HQ.size)⟩
          | some u =>
            obtain ⟨cs, rfl, hvx⟩ := hgot
            obtain ⟨k3, x3, s3, an3, ln3, cn3, ai3, li3, ci3, rfl⟩ := vrep_five hvx
            unfold five
            replace hvx := hid_f (VRep.keep ((Below.refl _ Y).alloc (Nat.le_refl _) (.cells #[.int .i64 k3, .int .i64 x3, .string s3, .slice an3 ln3 cn3, .slice ai3 li3 ci3] 25)) _ _ hvx)
            have hZ0 := (Below.heap_alloc Y (.cells #[.int .i64 k3, .int .i64 x3, .string s3, .slice an3 ln3 cn3, .slice ai3 li3 ci3] 25) _ hYs).trans hY0
            have HZ := HY.alloc HY.size (.cells #[.int .i64 k3, .int .i64 x3, .string s3, .slice an3 ln3 cn3, .slice ai3 li3 ci3] 25)
            have hx := heap_alloc_new Y (.cells #[.int .i64 k3, .int .i64 x3, .string s3, .slice an3 ln3 cn3, .slice ai3 li3 ci3] 25)
            obtain ⟨y0, y1, y2, y3, y4, -⟩ := row_cells hZ0
            go_wp2_with fail
            clear y0 y1 y2 y3 y4
            generalize Y.alloc (.cells #[.int .i64 k3, .int .i64 x3, .string s3, .slice an3 ln3 cn3, .slice ai3 li3 ci3] 25) = Y2 at hvx hZ0 HZ hx ⊢
            obtain ⟨gx, hgx⟩ : ∃ g, Y.heap.size = g := ⟨_, rfl⟩
            rw [hgx] at hx
            rw [hgx]
            clear hgx hY0 HY hYs
            go_fit (hal _ HZ).out
            rintro e Z ⟨hb, g, cap, k4, x4, s4, an4, ln4, cn4, ai4, li4, ci4, rfl, hC4, hV4⟩
            have HQ : Below w.heap.size w Z := HZ.trans (hb.mono HZ.size)
            replace hx := (hb.block _ (Array.getElem?_eq_some_iff.1 hx).1).trans hx
            replace hvx := hid_f (VRep.keep hb _ _ hvx.out)
            replace hV4 := hid_f hV4
            have a0 := hC4 0 _ rfl; have a1 := hC4 1 _ rfl; have a2 := hC4 2 _ rfl; have a3 := hC4 3 _ rfl; have a4 := hC4 4 _ rfl
            simp only [Nat.zero_add, Nat.add_zero] at a0 a1 a2 a3 a4
            obtain ⟨b0, b1, b2, b3, b4, -⟩ := row_cells hx
            clear hC4 hb hx hZ0 HZ hal
            go_wp2_with fail
            refine wp_region_quiet (C := fun w' => Below Z.heap.size Z w') (by kernel_rfl) (by kernel_rfl) (below_drewN (Below.refl _ _) 1) ?_
            refine wpQuiet_step (fun K hK => ?_)
            go_simp
            refine ⟨_, fun _ _ => rfl, hK _ ?_⟩
            clear hK K
            refine wpQuiet_step (fun K hK => ?_)
            go_simp
            refine ⟨_, fun _ _ => rfl, hK _ ?_⟩
            clear hK K
            refine wpQuiet_step (fun K hK => ?_)
            go_simp
            refine ⟨_, fun _ _ => rfl, hK _ ?_⟩
            clear hK K
            refine wpQuiet_step (fun K hK => ?_)
            go_simp
            refine ⟨_, fun _ _ => rfl, hK _ ?_⟩
            clear hK K
            refine wpQuiet_step (fun K hK => ?_)
            go_simp
            refine ⟨_, fun _ _ => rfl, hK _ ?_⟩
            clear hK K
            refine wpQuiet_step (fun K hK => ?_)
            go_simp
            refine ⟨_, fun _ _ => rfl, hK _ ?_⟩
            clear hK K
            refine wpQuiet_step (fun K hK => ?_)
            refine ⟨.agg #[.int .i64 k4, .int .i64 x4, .string s4, .slice an4 ln4 cn4, .slice ai4 li4 ci4], fun w' hw' => ?_, hK _ ?_⟩
            · have t0 := stay hw' a0
              have t1 := stay hw' a1
              have t2 := stay hw' a2
              have t3 := stay hw' a3
              have t4 := stay hw' a4
              go_simp
            clear hK K
            refine wpQuiet_step (fun K hK => ?_)
            refine ⟨.agg #[.int .i64 k3, .int .i64 x3, .string s3, .slice an3 ln3 cn3, .slice ai3 li3 ci3], fun w' hw' => ?_, hK _ ?_⟩
            · have t0 := stay hw' b0
              have t1 := stay hw' b1
              have t2 := stay hw' b2
              have t3 := stay hw' b3
              have t4 := stay hw' b4
              go_simp
            clear hK K
            refine wpQuiet_step (fun K hK => ?_)
            refine ⟨.bool true, fun w' hw' => ?_, hK _ ?_⟩
            · go_simp
              refine (equal_law _ k4 x4 s4 an4 ln4 cn4 ai4 li4 ci4 k3 x3 s3 an3 ln3 cn3 ai3 li3 ci3 w' (VRep.keep hw' _ _ hV4.out) (VRep.keep hw' _ _ hvx.out)).mono ?_
              rintro e w'' ⟨rfl, hb⟩
              exact ⟨rfl, hw'.trans (hb.mono hw'.size)⟩
            clear hK K
            refine wpQuiet_step (fun K hK => ?_)
            go_simp
            refine ⟨_, fun _ _ => rfl, hK _ ?_⟩
            clear hK K
            refine wpQuiet_step (fun K hK => ?_)
            go_simp
            refine ⟨_, fun _ _ => rfl, hK _ ?_⟩
            clear hK K
            refine wpQuiet_step (fun K hK => ?_)
            refine ⟨.bool true, fun w' hw' => ?_, hK _ ?_⟩
            · go_simp
              refine (live_true w').mono ?_
              rintro e w'' ⟨rfl, hb⟩
              exact ⟨rfl, hw'.trans (hb.mono hw'.size)⟩
            clear hK K
            refine wpQuiet_step (fun K hK => ?_)
            go_simp
            refine ⟨_, fun _ _ => rfl, hK _ ?_⟩
            clear hK K
            refine wpQuiet_step (fun K hK => ?_)
            go_simp
            refine ⟨_, fun _ _ => rfl, hK _ ?_⟩
            clear hK K
            refine wpQuiet_nil ?_
            intro Y9 hY9
            go_wp2_with fail
            go_ret
            exact ⟨rfl, HQ.trans (hY9.mono HQ.size)⟩
  · go_wp2_with fail
    refine (live_true _).mono ?_
    rintro e w9 ⟨rfl, hb9⟩
    go_wp2_with fail
    go_ret
    exact ⟨rfl, HB.trans (hb9.mono HB.size)⟩
end Go.Proofs.Ytelmdbfddmpaaaa
