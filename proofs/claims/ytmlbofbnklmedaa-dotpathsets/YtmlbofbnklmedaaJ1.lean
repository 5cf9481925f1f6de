import Derived.Test.YtmlbofbnklmedaaH1
import Derived.Deep.Upon
/-! gather of every value and path. -/
namespace Go.Proofs.Ytmlbofbnklmedaa
open Go Go.RowKit

theorem sizeOf_pos (t : Tr) : 1 ≤ SizeOf.sizeOf t := by cases t; simp only [Tr.node.sizeOf_spec]; omega
theorem partsT_node (k x : Int) (s : ByteArray) (ns : List ByteArray) (its : List Tr) : partsT (.node k x s ns its) = 1 + ns.length + partsL its := by unfold partsT; rfl
theorem len_parts : (its : List Tr) → its.length ≤ partsL its
  | [] => by simp
  | t :: ts => by have h1 := len_parts ts; have h2 := parts_pos t; rw [List.length_cons, partsL]; omega
theorem reads_drop {W : World} {c : Nat} {l : List ByteArray} {b o : Nat} (hb : b < W.heap.size) (hA : ∀ j s, l[j]? = some s → W.cell? ⟨b, o + j, none⟩ = some (.string s)) (hc : l.length ≤ c ∧ c ≤ 9223372036854775807) (q : Nat) (hq : q < l.length) : Reads W (.slice (some ⟨b, o + q, none⟩) (l.length - q) (c - q)) (l.drop q) := by
  refine ⟨some ⟨b, o + q, none⟩, c - q, by rw [List.length_drop], ⟨by rw [List.length_drop]; omega, by omega⟩, .inr ⟨b, o + q, rfl, hb, fun j s hj => ?_⟩⟩
  rw [List.getElem?_drop] at hj
  have := hA (q + j) s hj
  rwa [← Nat.add_assoc] at this

set_option maxHeartbeats 1000000 in
set_option maxRecDepth 100000 in
theorem gather_step (n : Nat) (IH : Hid (∀ n', n' < n → GatherOk n')) (W0 : World) (t : Tr) (k0 x0 : Int) (s0 : ByteArray) (an0 : Option Addr) (ln0 cn0 : Nat) (ai0 : Option Addr) (li0 ci0 : Nat) (a : Option Addr) (c : Nat) (l : List ByteArray) (w : World) (lo m : Nat) (af : Option Addr) (cf : Nat) (ts : List Tr) (xs : List Value)
    (hsz : SizeOf.sizeOf t ≤ n) (hW : Below W0.heap.size W0 w) (hV : Hid (VRep W0 t (five k0 x0 s0 (.slice an0 ln0 cn0) (.slice ai0 li0 ci0)))) (hA : Hid (l = [] ∨ ∃ b o, a = some ⟨b, o, none⟩ ∧ b < W0.heap.size ∧ ∀ j s, l[j]? = some s → W0.cell? ⟨b, o + j, none⟩ = some (.string s))) (hc : l.length ≤ c ∧ c ≤ 9223372036854775807)
    (hS : Hid (∀ s ∈ l, s.size ≤ 9223372036854775806)) (hl : l.length ≤ 9223372036854775806) (hlo : W0.heap.size ≤ lo) (hlw : lo ≤ w.heap.size) (hown : Hid (w.ownsRow lo 25 5 (.slice af m cf) m xs)) (hI : Hid (ItemsRep W0 ts xs)) (hb : m + partsT t ≤ 1000000) :
    Calls Try.prog 43 #[.slice af m cf, .agg #[.int .i64 k0, .int .i64 x0, .string s0, .slice an0 ln0 cn0, .slice ai0 li0 ci0], .slice a l.length c] w (GPost W0 lo w m ts (allF n t l)) := by
  obtain ⟨i5, hi5, hz0, hz1, hz2⟩ := info_parts F25
  obtain ⟨G, hGG⟩ : ∃ G, Hid (allF n t l = G) := ⟨_, rfl⟩
  rw [hGG.out]
  have hpp := parts_pos t
  go_enter Try.func43, Try.ntmps43
  go_wp2_with fail
  go_loopw [0, 13] (fun f i wr => f = .slice af m cf ∧ ∃ (q : Nat) (u : Tr) (k1 x1 : Int) (s1 : ByteArray) (an1 : Option Addr) (ln1 cn1 : Nat) (ai1 : Option Addr) (li1 ci1 : Nat), q ≤ l.length ∧ i = .int .i64 q ∧ Below w.heap.size w wr ∧ wr.heap[w.heap.size]? = some (.cells #[.int .i64 k1, .int .i64 x1, .string s1, .slice an1 ln1 cn1, .slice ai1 li1 ci1] 25 (0, 0)) ∧
      Hid (VRep W0 u (five k1 x1 s1 (.slice an1 ln1 cn1) (.slice ai1 li1 ci1))) ∧ Hid (G = allF (n - q) u (l.drop q)) ∧ Hid (SizeOf.sizeOf u + q ≤ n) ∧ Hid (partsT u ≤ partsT t)) (fun _ i _ => l.length - (intOf i).toNat)
  case atStart =>
    exact ⟨rfl, 0, t, k0, x0, s0, an0, ln0, cn0, ai0, li0, ci0, Nat.zero_le _, rfl, (Below.refl _ w).alloc (Nat.le_refl _) _, heap_alloc_new w _, hV, hid_f (by simpa using hGG.out.symm), hid_f (by omega), hid_f (Nat.le_refl _)⟩
  case round =>
    obtain ⟨rfl, q, u, k1, x1, s1, an1, ln1, cn1, ai1, li1, ci1, hq, rfl, hbel, hb0, hU, hG, hsu, hpu⟩ := hrel
    obtain ⟨y0, y1, y2, y3, y4, yf⟩ := row_cells hb0
    have hW1 : Below W0.heap.size W0 wr := hW.trans (hbel.mono (by omega))
    by_cases hlt : q < l.length
    · have hd : decide ((q : Int) < (l.length : Int)) = true := by simp; omega
      obtain ⟨b, o, rfl, hbl, hA⟩ := hA.out.resolve_left (by intro e; subst e; simp at hlt)
      replace hA := hid_f hA
      obtain ⟨x, hx⟩ : ∃ x, Hid (l[q]? = some x) := ⟨_, List.getElem?_eq_getElem hlt⟩
      have c1 : wr.cell? ⟨b, o + q, none⟩ = some (.string x) := stay hW1 (hA.out q x hx.out)
      have hxs : x.size ≤ 9223372036854775806 := hS.out x (List.mem_of_getElem? hx.out)
      obtain ⟨f, hf⟩ : ∃ f, Hid (n - q = f + 1) := ⟨n - q - 1, by have h1 := hsu.out; have h2 := sizeOf_pos u; exact hid_f (by omega)⟩
      cases u with
      | node ku xu su nsu itsu =>
        have hU' := hU.out
        unfold VRep at hU'
        obtain ⟨nm, ai, ci, he, hN, hci, hIt⟩ := hU'
        obtain ⟨rfl, rfl, rfl, rfl, rfl, rfl, rfl⟩ : k1 = ku ∧ x1 = xu ∧ s1 = su ∧ .slice an1 ln1 cn1 = nm ∧ ai1 = ai ∧ li1 = itsu.length ∧ ci1 = ci := by simpa [five] using he
        clear he
        have hsp := fun W => hid_f (spreads_any k1 x1 s1 an1 ln1 cn1 ai1 itsu.length ci1 x hxs W)
        have hpl := place_any k1 x1 s1 _ nsu ai1 itsu.length ci1 x wr (hN.keep hW1) hxs
        go_wp2_with fail
        refine hpl.mono ?_
        rintro e w1 ⟨rfl, hb9⟩
        clear hpl y0 y1 y2 y3 y4 yf c1
        have hbel1 : Below w.heap.size w w1 := hbel.trans (hb9.mono hbel.size)
        have hW2 : Below W0.heap.size W0 w1 := hW.trans (hbel1.mono (by omega))
        replace hb0 := (hb9.block _ (Array.getElem?_eq_some_iff.1 hb0).1).trans hb0
        clear hb9 hbel hW1
        obtain ⟨y0, y1, y2, y3, y4, yf⟩ := row_cells hb0
        replace hG : Hid (G = allF (f + 1) (.node k1 x1 s1 nsu itsu) (x :: l.drop (q + 1))) := by rw [Hid, hG.out, drop_cons hx.out, hf.out]
        cases hpb : placeB k1 nsu itsu.length x
        · replace hG := hid_f (hG.out.trans (allF_none (t := .node k1 x1 s1 nsu itsu) hpb))
          have hows : Hid (w1.ownsRow lo 25 5 (.slice af m cf) m xs) := ownsRow_below hown.out hbel1
          cases hsb : spreadB k1 x
          · rw [hsb] at hsp
            obtain rfl : G = [] := hG.out.trans (if_neg (by show ¬ spreadB k1 x = true; rw [hsb]; decide))
            clear hpb hU hIt hN hG hsb
            go_wp2_with fail
            go_fit (hsp _).out
            rintro e w2 ⟨rfl, hb2⟩
            go_wp2_with fail
            go_ret
            exact ⟨_, xs, rfl, ownsRow_below hows.out hb2, by simpa using hI.out, (hbel1.mono hlw).trans (hb2.mono (Nat.le_trans hlw hbel1.size))⟩
          · rw [hsb] at hsp
            replace hG := hid_f (hG.out.trans (if_pos (show spreadB k1 x = true from hsb)))
            rw [← drop_cons hx.out] at hG
            have hG' : Hid (G = eachF f itsu (l.drop q)) := hG
            clear hG
            have hIt' := hid_f hIt
            clear hpb hN hsb hIt
            go_wp2_with fail
            go_fit (hsp _).out
            rintro e w2 ⟨rfl, hb2⟩
            clear y0 y1 y2 y3 y4 yf hsp
            have hbel2 : Below w.heap.size w w2 := hbel1.trans (hb2.mono hbel1.size)
            have hW3 : Below W0.heap.size W0 w2 := hW.trans (hbel2.mono (by omega))
            replace hb0 := (hb2.block _ (Array.getElem?_eq_some_iff.1 hb0).1).trans hb0
            replace hows := hid_f (ownsRow_below hows.out hb2)
            clear hb2 hbel1 hW2
            have hec := hid_f (fun W (hWW : Below w2.heap.size w2 W) => each_any f (hid_f (IH.out f (by have h1 := hf.out; omega))) W0 itsu ai1 ci1 (some ⟨b, o + q, none⟩) (l.length - q) (c - q) (l.drop q) W lo m (.slice af m cf) ts xs (hid_f (fun v hv => by have h1 := List.sizeOf_lt_of_mem hv; have h2 := hsu.out; have h3 := hf.out; simp only [Tr.node.sizeOf_spec] at h2; omega)) (hW3.trans (hWW.mono hW3.size)) (by have h1 := hpu.out; rw [partsT_node] at h1; have h2 := len_parts itsu; omega) hIt' (hid_f (reads_drop hbl hA.out hc q hlt)) (hid_f (fun s hs => hS.out s (List.mem_of_mem_drop hs))) (by rw [List.length_drop]; omega) hlo (by have h1 := hbel2.size; have h2 := hWW.size; omega) (hid_f (ownsRow_below hows.out hWW)) hI (hid_f (by have h1 := hpu.out; rw [partsT_node] at h1; omega)))
            have hqc : ¬ (c = q) := by omega
            have i1 : (q : Int) ≤ (l.length : Int) := by omega
            have i2 : (0 : Int) ≤ (q : Int) := by omega
            have i3 : (l.length : Int) ≤ (c : Int) := by omega
            go_wp2_with fail
            replace hb0 : w2.drew.heap[w.heap.size]? = some (.cells #[.int .i64 k1, .int .i64 x1, .string s1, .slice an1 ln1 cn1, .slice ai1 itsu.length ci1] 25 (0, 0)) := hb0
            have hWW : Below w2.heap.size w2 w2.drew := below_drew (Below.refl _ _)
            generalize hX : w2.drew = X at hb0 hWW
            refine wp_region_noPanic ?_
            refine Until.wp_region_U (fun _ => True) (fun w' => w'.heap[w.heap.size]? = some (.cells #[.int .i64 k1, .int .i64 x1, .string s1, .slice an1 ln1 cn1, .slice ai1 itsu.length ci1] 25 (0, 0))) 6 (by kernel_rfl) ?_
            rw [hX]
            clear hX
            refine Until.wpU_pure (i := 0) (oi := { dst := some 29, op := Op.move (Operand.tmp 0), type := 23, pos := "look.go:47", after := #[], guard := none }) (v := .slice af m cf) rfl (by kernel_rfl) (by kernel_rfl) (by kernel_rfl) (by kernel_rfl) (by kernel_rfl) (fun _ _ _ h => h) (trivial) (fun _ => hb0) (by rfl) (by intro w'; go_simp) ?_
            try simp only [Act.put, List.setIfInBounds_toArray, List.set_cons_zero, List.set_cons_succ]
            refine Until.wpU_pure (i := 1) (oi := { dst := some 30, op := Op.fieldAddr 25 (Operand.tmp 4) 4, type := 0, pos := "look.go:47", after := #[], guard := none }) (v := .pointer (some ⟨w.heap.size, 4, none⟩)) rfl (by kernel_rfl) (by kernel_rfl) (by kernel_rfl) (by kernel_rfl) (by kernel_rfl) (fun _ _ _ h => h) (trivial) (fun _ => hb0) (by rfl) (by intro w'; go_simp) ?_
            try simp only [Act.put, List.setIfInBounds_toArray, List.set_cons_zero, List.set_cons_succ]
            refine Until.wpU_load1 (i := 2) (oi := { dst := some 31, op := Op.load 23 (Operand.tmp 30), type := 23, pos := "look.go:47", after := #[{ on := 1, ground := Ground.data }], guard := none }) (v := .slice ai1 itsu.length ci1) rfl (by kernel_rfl) (by kernel_rfl) (by kernel_rfl) (by kernel_rfl) (by kernel_rfl) (by kernel_rfl) (fun _ _ _ h => h) (trivial) (hb0) (by rfl) (by intro w' hw'; obtain ⟨t0, t1, t2, t3, t4, -⟩ := row_cells hw'; clear hw'; go_simp) ?_
            try simp only [Act.put, List.setIfInBounds_toArray, List.set_cons_zero, List.set_cons_succ]
            refine Until.wpU_pure (i := 3) (oi := { dst := some 32, op := Op.move (Operand.tmp 2), type := 22, pos := "look.go:47", after := #[], guard := none }) (v := .slice (some ⟨b, o, none⟩) l.length c) rfl (by kernel_rfl) (by kernel_rfl) (by kernel_rfl) (by kernel_rfl) (by kernel_rfl) (fun _ _ _ h => h) (trivial) (fun _ => hb0) (by rfl) (by intro w'; go_simp) ?_
            try simp only [Act.put, List.setIfInBounds_toArray, List.set_cons_zero, List.set_cons_succ]
            refine Until.wpU_pure (i := 4) (oi := { dst := some 33, op := Op.move (Operand.tmp 7), type := 3, pos := "look.go:47", after := #[], guard := none }) (v := .int .i64 q) rfl (by kernel_rfl) (by kernel_rfl) (by kernel_rfl) (by kernel_rfl) (by kernel_rfl) (fun _ _ _ h => h) (trivial) (fun _ => hb0) (by rfl) (by intro w'; go_simp) ?_
            try simp only [Act.put, List.setIfInBounds_toArray, List.set_cons_zero, List.set_cons_succ]
            refine Until.wpU_pure (i := 5) (oi := { dst := some 34, op := Op.slice 22 (Operand.tmp 32) (some (Operand.tmp 33)) none none, type := 22, pos := "look.go:47", after := #[{ on := 3, ground := Ground.data }, { on := 4, ground := Ground.data }], guard := none }) (v := .slice (some ⟨b, o + q, none⟩) (l.length - q) (c - q)) rfl (by kernel_rfl) (by kernel_rfl) (by kernel_rfl) (by kernel_rfl) (by kernel_rfl) (fun _ _ _ h => h) (trivial) (fun _ => hb0) (by rfl) (by intro w'; go_simp) ?_
            try simp only [Act.put, List.setIfInBounds_toArray, List.set_cons_zero, List.set_cons_succ]
            refine Until.wpU_ready (rs := [6]) (by kernel_rfl) (by simp) ?_
            refine (Until.AllU.cons (o := { dst := some 35, op := Op.call { callee := Callee.value (Operand.func 62), args := #[Operand.tmp 29, Operand.tmp 31, Operand.tmp 34], argTypes := #[23, 23, 22] }, type := 23, pos := "look.go:47", after := #[{ on := 0, ground := Ground.data }, { on := 2, ground := Ground.data }, { on := 5, ground := Ground.data }], guard := none }) rfl (fun K hK => ?_) Until.AllU.nil)
            go_simp
            refine (hec.out X hWW).mono ?_
            rintro e Z ⟨fv, zs, rfl, e1, e2, e3⟩
            refine hK.out _ _ trivial (fun h => absurd h (by decide)) ?_
            clear hK K
            try simp only [Act.put, List.setIfInBounds_toArray, List.set_cons_zero, List.set_cons_succ]
            refine Until.wpU_ready (rs := [7]) (by kernel_rfl) (by simp) ?_
            refine (Until.AllU.cons (o := { dst := some 0, op := Op.assign (Operand.tmp 35), type := 23, pos := "look.go:47", after := #[{ on := 6, ground := Ground.data }, { on := 6, ground := Ground.chain }, { on := 0, ground := Ground.phase }, { on := 1, ground := Ground.phase }, { on := 2, ground := Ground.phase }, { on := 3, ground := Ground.phase }, { on := 4, ground := Ground.phase }, { on := 5, ground := Ground.phase }, { on := 6, ground := Ground.phase }], guard := none }) rfl (fun K hK => ?_) Until.AllU.nil)
            go_simp
            refine hK.out _ _ trivial (fun h => absurd h (by decide)) ?_
            clear hK K
            try simp only [Act.put, List.setIfInBounds_toArray, List.set_cons_zero, List.set_cons_succ]
            refine Until.wpU_done (by kernel_rfl) ?_ _
            refine NoPanic.normal ?_
            go_wp2_with fail
            go_ret
            rw [← hG'.out] at e1 e2
            exact ⟨fv, zs, rfl, e1, e2, (hbel2.mono hlw).trans ((hWW.mono (Nat.le_trans hlw hbel2.size)).trans e3)⟩
        · obtain ⟨i, hi, him⟩ := placeB_true hpb
          obtain ⟨b2, o2, rfl, hb2, hIt⟩ := hIt.resolve_left (by intro e; subst e; simp at him)
          obtain ⟨u', hu'⟩ : ∃ u', itsu[i]? = some u' := ⟨_, List.getElem?_eq_getElem him⟩
          obtain ⟨cs', hcs', hVu⟩ := VRepL.at itsu o2 i u' hIt hu'
          obtain ⟨k2, x2, s2, an2, ln2, cn2, ai2, li2, ci2, rfl⟩ := vrep_five hVu
          have g0 := stay hW2 (hcs' 0 _ rfl)
          have g1 := stay hW2 (hcs' 1 _ rfl)
          have g2 := stay hW2 (hcs' 2 _ rfl)
          have g3 := stay hW2 (hcs' 3 _ rfl)
          have g4 := stay hW2 (hcs' 4 _ rfl)
          simp only [Nat.add_zero] at g0
          have yf0 := yf 0; have yf1 := yf 1; have yf2 := yf 2; have yf3 := yf 3; have yf4 := yf 4
          clear yf
          have hG2 : Hid (G = allF (n - (q + 1)) u' (l.drop (q + 1))) := by rw [Hid, show n - (q + 1) = f by have := hf.out; omega]; exact hG.out.trans (allF_some (t := .node k1 x1 s1 nsu itsu) hpb hi hu')
          have hs2 : Hid (SizeOf.sizeOf u' + (q + 1) ≤ n) := hid_f (by have h1 := tr_lt hu'; have h2 := hsu.out; simp only [Tr.node.sizeOf_spec] at h2; omega)
          have hp2 : Hid (partsT u' ≤ partsT t) := hid_f (by have h1 := partsL_mem hu'; have h2 := hpu.out; rw [partsT_node] at h2; omega)
          have hVu1 : Hid (VRep W0 u' (five k2 x2 s2 (.slice an2 ln2 cn2) (.slice ai2 li2 ci2))) := hVu
          rw [hi]
          clear hi hpb hU hIt hcs' hVu hN hG hu' hsp hsu hpu
          go_wp2_with fail
          go_roundw
          case rel =>
            exact ⟨rfl, q + 1, u', k2, x2, s2, an2, ln2, cn2, ai2, li2, ci2, by omega, by simp, hbel1.trans (put5_below (Nat.le_refl _) _ _ _ _ _), put5_at hb0 _ _ _ _ _, hVu1, hG2, hs2, hp2⟩
          case measure => simp [intOf]; omega
    · have hd : decide ((q : Int) < (l.length : Int)) = false := by simp; omega
      obtain rfl : G = [u] := by rw [hG.out, List.drop_of_length_le (by omega), allF_nil]
      clear hG hA yf
      have hlr : lo ≤ wr.heap.size := Nat.le_trans hlw hbel.size
      have hows : Hid (wr.ownsRow lo 25 5 (.slice af m cf) m xs) := ownsRow_below hown.out hbel
      go_wp2_with (at_builtin; refine wpList_append_lies _ rfl _ _ 23 rfl lo 25 i5 _ 5 80 Try.underlying23 hi5 hz0 hz1 hz2 rfl (by decide) _ m xs rfl (hows.out.alloc _) _ 1 1 [.int .i64 k1, .int .i64 x1, .string s1, .slice an1 ln1 cn1, .slice ai1 li1 ci1] rfl rfl (World.news_of_block (heap_alloc_new wr _)) (five_one _ _ _ _ _ _ _ _ _) (by decide) (by unfold maxLen; omega) (by omega) (by simp only [World.size_alloc]; omega) _ rfl ?_; intro g cap w4 hown4 hgrow4 hat4 hlt4; clear hat4)
      go_ret
      replace hgrow4 : (wr.alloc (.cells #[.int .i64 k1, .int .i64 x1, .string s1, .slice an1 ln1 cn1, .slice ai1 li1 ci1] 25)).grownBy w4 (Value.slice af m cf).ownBlock := hgrow4
      have hB4 : Below lo w w4 := ((hbel.mono hlw).alloc hlr _).trans (grown_below hgrow4 (by simp only [World.size_alloc]; omega) (fun g hg => (ownsRow_ge hows.out hg).1))
      exact ⟨_, _, rfl, hown4, ItemsRep.snoc rfl hU.out hI.out, hB4⟩
theorem gather_ok (n : Nat) : GatherOk n := by
  induction n using Nat.strongRecOn with
  | _ n ih =>
    intro W0 t k x s an ln cn ai li ci pv l w lo m fv ts xs h1 h2 h3 h4 h5 h6 h7 h8 h9 h10 h11
    obtain ⟨a, c, rfl, hc, hA⟩ := h4
    obtain ⟨af, cf, rfl⟩ := ownsRow_slice h9
    exact gather_step n (hid_f ih) W0 t k x s an ln cn ai li ci a c l w lo m af cf ts xs h1 h2 (hid_f h3) (hid_f hA) hc (hid_f h5) h6 h7 h8 (hid_f h9) (hid_f h10) h11
end Go.Proofs.Ytmlbofbnklmedaa
/-! The document's All of every value and path. -/
namespace Go.Proofs.Ytmlbofbnklmedaa
open Go Go.RowKit
theorem items_one {W : World} : {ts : List Tr} → {ys : List Value} → ItemsRep W ts ys → ∀ u ∈ ys, u.oneCell' = true
  | [], ys, h => by unfold ItemsRep at h; subst h; intro u hu; cases hu
  | t :: ts, ys, h => by
    unfold ItemsRep at h
    obtain ⟨cs, r, rfl, h1, h2, h3⟩ := h
    intro u hu
    rcases List.mem_append.1 hu with hu | hu
    · obtain ⟨k, x, s, an, ln, cn, ai, li, ci, rfl⟩ := vrep_five h2
      exact five_one k x s an ln cn ai li ci u hu
    · exact items_one h3 u hu
theorem items_len {W : World} : {ts : List Tr} → {ys : List Value} → ItemsRep W ts ys → ys.length = ts.length * 5
  | [], ys, h => by unfold ItemsRep at h; subst h; rfl
  | t :: ts, ys, h => by
    unfold ItemsRep at h
    obtain ⟨cs, r, rfl, h1, h2, h3⟩ := h
    have := items_len h3
    simp only [List.length_append, List.length_cons]
    omega
/-- A row of one's own appended to another. -/
theorem wpList_append_row {w : World} {ops : Array Oper} {rest : List Oper} {o : Oper} {a : Act} {Q : Exit → Act → World → Prop} (hgd : o.guard = none) (s x : Operand)
    (ho : o.op = .call { callee := .builtin .append, args := #[s, x], argTypes := #[23, 23] }) (lo : Nat) (v : Value) (n : Nat) (xs : List Value) (hs : a.eval s = v) (hown : w.ownsRow lo 25 5 v n xs)
    (lo2 : Nat) (vx : Value) (m : Nat) (ys : List Value) (hx : a.eval x = vx) (hrow : w.ownsRow lo2 25 5 vx m ys) (h1 : ∀ u ∈ ys, u.oneCell' = true) (hby : (n + m) * 80 ≤ 140737488355328) (hlo : lo ≤ w.heap.size)
    (h : ∀ v' w', w'.ownsRow lo 25 5 v' (n + m) (xs ++ ys) → Below lo w w' → wpList Try.prog ops Q rest (a.put o.dst v') w') : wpList Try.prog ops Q (o :: rest) a w := by
  obtain ⟨i5, hi5, hz0, hz1, hz2⟩ := info_parts F25
  obtain ⟨av, cv, rfl⟩ := ownsRow_slice hown
  obtain ⟨ax, cx, rfl⟩ := ownsRow_slice hrow
  by_cases hm : m = 0
  · subst hm
    have hys : ys = [] := List.eq_nil_of_length_eq_zero (by have := hrow.1; simpa using this)
    subst hys
    have hle : n ≤ cv := by
      rcases hown.2 with ⟨hv, h0⟩ | ⟨g, cap, cur, hv, hg, hh, hc, r⟩
      · cases hv; omega
      · cases hv; exact hc
    have hsrc : Src Try.prog i5.size 23 (.slice ax 0 cx) 0 [] w := by
      cases ax with
      | none => exact Src.ofNil w Try.underlying23 cx
      | some ad => exact Src.ofSlice w Try.underlying23 ad 0 cx [] (by simp) (fun j u h => by simp at h) (fun u h => by cases h)
    refine wpList_plain hgd fun K hK => ?_
    have hr := run_append_nothing (P := Try.prog) w 23 23 o.type 25 i5 Try.underlying23 hi5 av n cv hle _ hsrc
    unfold Oper.wp execOp
    simp only [ho, resolve, invoke, builtin, Sem.run_bind, Sem.run_pure, Result.andThen_ok, List.map_toArray, List.map_cons, List.map_nil, hs, hx, hr]
    exact hK _ _ (h _ w (by simpa using hown) (Below.refl _ _))
  · rcases hrow.2 with ⟨_, h0⟩ | ⟨g, cap, cur, hv, hg, hh, hc, hmx, hss, hr⟩
    · omega
    · cases hv
      refine wpList_append_lies w hgd s x 23 ho lo 25 i5 _ 5 80 Try.underlying23 hi5 hz0 hz1 hz2 rfl (by decide) _ n xs hs hown _ m cx ys hx hrow.1 (fun j u hu => ?_) h1 (by omega) (by unfold maxLen; omega) hby hlo _ rfl ?_
      · rw [add_off, Nat.zero_add]
        exact row_cell hrow j u hu
      · intro g' cap' w' h2 h3 _ _
        exact h _ w' h2 (grown_below h3 hlo (fun k hk => (ownsRow_ge hown hk).1))
theorem row_one (w : World) (k x : Int) (s : ByteArray) (an : Option Addr) (ln cn : Nat) (ai : Option Addr) (li ci : Nat) (lo : Nat) (h : lo ≤ w.heap.size) : (w.alloc (.cells #[.int .i64 k, .int .i64 x, .string s, .slice an ln cn, .slice ai li ci] 25)).ownsRow lo 25 5 (.slice (some ⟨w.heap.size, 0, none⟩) 1 1) 1 (five k x s (.slice an ln cn) (.slice ai li ci)) :=
  ⟨rfl, .inr ⟨w.heap.size, 1, #[.int .i64 k, .int .i64 x, .string s, .slice an ln cn, .slice ai li ci], rfl, h, heap_alloc_new w _, Nat.le_refl _, by unfold maxLen; omega, rfl, rfl⟩⟩
theorem reads_tail {W : World} {b o c : Nat} {sg : ByteArray} {r : List ByteArray} (hbb : b < W.heap.size) (hA : ∀ j s, (sg :: r)[j]? = some s → W.cell? ⟨b, o + j, none⟩ = some (.string s)) (hc : r.length + 1 ≤ c ∧ c ≤ 9223372036854775807) : Reads W (.slice (some ⟨b, if c = 1 then o else o + 1, none⟩) r.length (c - 1)) r := by
  refine ⟨_, c - 1, rfl, ⟨by omega, by omega⟩, ?_⟩
  by_cases hc1 : c = 1
  · exact .inl (List.eq_nil_of_length_eq_zero (by omega))
  · refine .inr ⟨b, o + 1, by rw [if_neg hc1], hbb, fun j s hj => ?_⟩
    have := hA (j + 1) s (by simpa using hj)
    rwa [show o + (j + 1) = o + 1 + j by omega] at this
end Go.Proofs.Ytmlbofbnklmedaa
/-! What Looks leans on: large, values, number. -/
namespace Go.Proofs.Ytmlbofbnklmedaa
open Go Go.RowKit
/-- What large tells. -/
def LargeOk (z : Bool) (t : Tr) : Prop := z = false → partsT t ≤ 5000
set_option maxHeartbeats 2000000 in
set_option maxRecDepth 100000 in
theorem large_t (t : Tr) (k x : Int) (s : ByteArray) (an : Option Addr) (ln cn : Nat) (ai : Option Addr) (li ci : Nat) (b c : Nat) (w : World) (hV : Hid (VRep w t (five k x s (.slice an ln cn) (.slice ai li ci)))) (hS : Hid (SmallT t)) (hC : CellsAt w b 0 (five k x s (.slice an ln cn) (.slice ai li ci))) :
    Calls Try.prog 6 #[.slice (some ⟨b, 0, none⟩) 1 c] w fun e w' => (∃ z, e = .returned (.bool z) ∧ LargeOk z t) ∧ Below w.heap.size w w' := by
  have g0 := hC 0 _ rfl
  have g1 := hC 1 _ rfl
  have g2 := hC 2 _ rfl
  have g3 := hC 3 _ rfl
  have g4 := hC 4 _ rfl
  simp only [Nat.zero_add, Nat.add_zero] at g0 g1 g2 g3 g4
  clear hC
  go_enter Try.func6, Try.ntmps6
  go_wp2_with fail
  go_loopw [3, 4] (fun n i wr => ∃ (z : Int) (q : Nat), q ≤ 1 ∧ n = .int .i64 z ∧ i = .int .i64 q ∧ Below w.heap.size w wr ∧ Hid (q = 0 → z = 0) ∧ Hid (q = 1 → PartsOk 5000 z (partsT t))) (fun _ i _ => 1 - (intOf i).toNat)
  case atStart => exact ⟨0, 0, by omega, rfl, rfl, Below.refl _ w, fun _ => rfl, fun h => by omega⟩
  case round =>
    obtain ⟨z, q, hq, rfl, rfl, hbel, h0, h1⟩ := hrel
    by_cases hlt : q = 0
    · subst hlt
      obtain rfl : z = 0 := h0.out rfl
      have hcall := hid_f (parts_exact t (five k x s (.slice an ln cn) (.slice ai li ci)) 5000 wr (VRep.keep hbel _ _ hV.out) hS.out (by omega) (by omega))
      replace g0 := stay hbel g0
      replace g1 := stay hbel g1
      replace g2 := stay hbel g2
      replace g3 := stay hbel g3
      replace g4 := stay hbel g4
      go_wp2_with fail
      go_fit hcall.out
      rintro e w1 ⟨⟨z', rfl, hp⟩, hb1⟩
      obtain ⟨hp1, hp2, -, -⟩ := id hp
      have hw3 : IntKind.i64.wrap z' = z' := wrap_in _ (by omega) (by omega)
      replace hp := hid_f hp
      clear g0 g1 g2 g3 g4 hcall h0 h1
      have hbel1 : Below w.heap.size w w1 := hbel.trans (hb1.mono hbel.size)
      go_wp2_with fail
      go_roundw
      case rel => exact ⟨z', 1, by omega, by simp, by simp, hbel1, fun h => by omega, fun _ => hp.out⟩
      case measure => simp [intOf]
    · obtain rfl : q = 1 := by omega
      have hp := h1.out rfl
      obtain ⟨hp1, hp2, hp3, hp4⟩ := hp
      by_cases hz : 5000 < z
      · have hd : decide ((5000 : Int) < z) = true := by simpa using hz
        clear g0 g1 g2 g3 g4 h0 h1
        go_wp2_with fail
        go_ret
        exact ⟨⟨true, rfl, fun h => by cases h⟩, hbel⟩
      · have hd : decide ((5000 : Int) < z) = false := by simpa using hz
        have hfin : Hid (partsT t ≤ 5000) := hid_f (by have := hp3 (by omega); omega)
        clear g0 g1 g2 g3 g4 h0 h1 hp3 hp4
        go_wp2_with fail
        go_ret
        exact ⟨.inl ⟨rfl, fun _ => hfin.out⟩, hbel⟩
set_option maxHeartbeats 1000000 in
theorem equal_law (t : Tr) (k x : Int) (s : ByteArray) (an : Option Addr) (ln cn : Nat) (ai : Option Addr) (li ci : Nat) (k' x' : Int) (s' : ByteArray) (an' : Option Addr) (ln' cn' : Nat) (ai' : Option Addr) (li' ci' : Nat) (w : World) (hV : VRep w t (five k x s (.slice an ln cn) (.slice ai li ci))) (hV' : VRep w t (five k' x' s' (.slice an' ln' cn') (.slice ai' li' ci'))) :
    Calls Try.prog 14 #[.agg #[.int .i64 k, .int .i64 x, .string s, .slice an ln cn, .slice ai li ci], .agg #[.int .i64 k', .int .i64 x', .string s', .slice an' ln' cn', .slice ai' li' ci']] w fun e w' => e = .returned (.bool true) ∧ Below w.heap.size w w' := by
  have hq := fun o p => hid_f (equal_same t (five k x s (.slice an ln cn) (.slice ai li ci)) (five k' x' s' (.slice an' ln' cn') (.slice ai' li' ci')) ((w.alloc o).alloc p) (VRep.keep (below_two w o p) _ _ hV) (VRep.keep (below_two w o p) _ _ hV'))
  clear hV hV'
  go_enter Try.func14, Try.ntmps14
  go_wp2_with fail
  go_fit (hq _ _).out
  rintro e w1 ⟨rfl, hb⟩
  go_wp2_with fail
  go_ret
  exact ⟨rfl, (below_two w _ _).trans (hb.mono (by simp only [World.size_alloc]; omega))⟩
/-- A list of values, in memory. -/
def ListAt (w : World) (v : Value) (ts : List Tr) : Prop := ∃ a c, v = .slice a ts.length c ∧ (ts = [] ∨ ∃ b o, a = some ⟨b, o, none⟩ ∧ b < w.heap.size ∧ VRepL w b o ts)
set_option maxHeartbeats 1000000 in
set_option maxRecDepth 100000 in
theorem number_lit (x : Int) (w : World) : Calls Try.prog 25 #[.int .i64 x] w fun e w' => e = .returned (.agg #[.int .i64 3, .int .i64 x, .string ⟨#[]⟩, .slice none 0 0, .slice none 0 0]) ∧ w' = w.alloc (.cells #[.int .i64 3, .int .i64 x, .string ⟨#[]⟩, .slice none 0 0, .slice none 0 0] 25) := by
  go_enter Try.func25, Try.ntmps25
  go_wp2_with fail
  refine bodyPost_ret (v := .agg #[.int .i64 3, .int .i64 x, .string ⟨#[]⟩, .slice none 0 0, .slice none 0 0]) (by simp [results, Try.results25, go_sem]) rfl ?_
  exact ⟨rfl, rfl⟩
end Go.Proofs.Ytmlbofbnklmedaa
