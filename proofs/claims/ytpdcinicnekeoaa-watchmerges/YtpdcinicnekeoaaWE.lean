import Derived.Test.YtpdcinicnekeoaaWD
import Derived.Deep.Cut
import Derived.Deep.RegionHeld3
/-! watch: With. -/
namespace Go.Proofs.Ytpdcinicnekeoaa
open Go Go.RowKit Go.Watch
def ptrV (g : Nat) : Value := .pointer (some ⟨g, 0, none⟩)
/-- Old blocks of S, and new ones. -/
def NewS (S : Nat → Prop) (B : Nat) : Nat → Prop := fun b => (S b ∧ b < B) ∨ B ≤ b
structure WithPost (S : Nat → Prop) (w : World) (k : Nat) (g : Lg) (e : Ending) (w' : World) : Prop where
  bel : Below w.heap.size w w'
  log : ∃ p a cap, e = .returned (.pointer (some ⟨p, 0, none⟩)) ∧ LogAt (NewS S w.heap.size) w' p k g a cap
/-- The next log under way. -/
structure Nx (S : Nat → Prop) (lo : Nat) (w : World) (p : Nat) (k hor : Int) (a : Option Addr) (n cap : Nat) (gs : List Nat) (cs : List Chg) : Prop where
  kp : w.cell? ⟨p, 0, none⟩ = some (.int .i64 k)
  hr : w.cell? ⟨p, 1, none⟩ = some (.int .i64 hor)
  sl : w.cell? ⟨p, 2, none⟩ = some (.slice a n cap)
  fz : w.frozen? ⟨p, 2, none⟩ = false
  lop : lo ≤ p
  len : gs.length = n
  lenc : cs.length = n
  le : n ≤ cap
  mx : cap ≤ maxLen
  rd : ∀ (j g : Nat), gs[j]? = some g → ∃ b o, a = some ⟨b, o, none⟩ ∧ NewS S lo b ∧ b ≠ p ∧ w.cell? ⟨b, o + j, none⟩ = some (ptrV g)
  ch : ∀ (j g : Nat) c, gs[j]? = some g → cs[j]? = some c → NewS S lo g ∧ g ≠ p ∧ ChgCell w g 0 c
  room : n < cap → Rw w lo 1 a n cap (gs.map ptrV) ∧ ∀ b, blkOf a b → b ≠ p ∧ b ∉ gs
theorem Nx.log {S : Nat → Prop} {lo : Nat} {w : World} {p : Nat} {k hor : Int} {a : Option Addr} {n cap : Nat} {gs : List Nat} {cs : List Chg} (h : Nx S lo w p k hor a n cap gs cs) : LogAt (NewS S lo) w p k ⟨hor, cs⟩ a cap := by
  have hm := h.mx
  unfold maxLen at hm
  refine ⟨h.kp, h.hr, by rw [h.lenc]; exact h.sl, by rw [h.lenc]; exact h.le, by omega, .inr h.lop, fun j c hc => ?_⟩
  have hj := (List.getElem?_eq_some_iff.1 hc).1
  have hj' : j < gs.length := by rw [h.len, ← h.lenc]; exact hj
  obtain ⟨b, o, h1, h2, -, h3⟩ := h.rd j _ (List.getElem?_eq_getElem hj')
  obtain ⟨h4, -, h5⟩ := h.ch j _ c (List.getElem?_eq_getElem hj') hc
  exact ⟨b, o, _, h1, h2, h4, h3, h5⟩
theorem frozen_keep {w w' : World} {p : Addr} (h : w'.heap[p.block]? = w.heap[p.block]?) : w'.frozen? p = w.frozen? p := World.frozen?_of_block h
theorem Nx.step {S : Nat → Prop} {lo : Nat} {wr W2 W3 : World} {p : Nat} {k hor : Int} {a : Option Addr} {n cap : Nat} {gs : List Nat} {cs : List Chg} {c : Chg} {B g' o' c' : Nat} (h : Nx S lo wr p k hor a n cap gs cs) (hlo : lo ≤ wr.heap.size) (hb : Below wr.heap.size wr W2) (hB : wr.heap.size ≤ B) (hc : ChgCell W2 B 0 c)
    (hA : Appd W2 lo 1 a n 1 cap (gs.map ptrV ++ [ptrV B]) g' o' c' W3) :
    (W3.cell? ⟨p, 2, none⟩ = some (.slice a n cap) ∧ W3.frozen? ⟨p, 2, none⟩ = false) ∧ Nx S lo (W3.setCell ⟨p, 2, none⟩ (.slice (some ⟨g', o', none⟩) (n + 1) c')) p k hor (some ⟨g', o', none⟩) (n + 1) c' (gs ++ [B]) (cs ++ [c]) := by
  have hpl : p < wr.heap.size := lt_of_cell h.kp
  have hs2 := hb.size
  have hgl : ∀ g ∈ gs, g < wr.heap.size ∧ g ≠ p := fun g hg => by
    obtain ⟨j, hj⟩ := List.getElem?_of_mem hg
    have hj' := (List.getElem?_eq_some_iff.1 hj).1
    have hjc : j < cs.length := by rw [h.lenc, ← h.len]; exact hj'
    obtain ⟨-, h2, h3⟩ := h.ch j g _ hj (List.getElem?_eq_getElem hjc)
    exact ⟨h3.lt, h2⟩
  have hal : n + 1 ≤ cap → ∀ b, blkOf a b → b < wr.heap.size := fun h1 b hbk => by
    obtain ⟨hR, -⟩ := h.room (by omega)
    rcases hR.pt with h0 | ⟨b', o, e, -, h2, -⟩
    · omega
    · obtain ⟨o2, s2, e2⟩ := hbk
      rw [e] at e2
      cases e2
      exact h2
  have keep : ∀ q, q < W2.heap.size → (n + 1 ≤ cap → ¬ blkOf a q) → W3.heap[q]? = W2.heap[q]? := fun q hq hn => hA.fr.block q hq (fun e => hn e.2 e.1)
  have keepo : ∀ q, q < wr.heap.size → (n + 1 ≤ cap → ¬ blkOf a q) → W3.heap[q]? = wr.heap[q]? := fun q hq hn => (keep q (by omega) hn).trans (hb.block q hq)
  have kp := keepo p hpl (fun h1 e => ((h.room (by omega)).2 p e).1 rfl)
  have kB := keep B hc.lt (fun h1 e => by have := hal h1 B e; omega)
  have kg : ∀ g ∈ gs, W3.heap[g]? = wr.heap[g]? := fun g hg => keepo g (hgl g hg).1 (fun h1 e => ((h.room (by omega)).2 g e).2 hg)
  have hgp : g' ≠ p ∧ g' ∉ gs ∧ g' ≠ B := by
    rcases hA.at' with ⟨e, -, h1⟩ | ⟨e, -⟩
    · have := (h.room (by omega)).2 g' ⟨o', none, e⟩
      have h3 := hal h1 g' ⟨o', none, e⟩
      exact ⟨this.1, this.2, by omega⟩
    · refine ⟨by omega, fun hg => ?_, ?_⟩
      · have := (hgl g' hg).1
        omega
      · have := hc.lt
        omega
  have k4 : ∀ q, q ≠ p → (W3.setCell ⟨p, 2, none⟩ (.slice (some ⟨g', o', none⟩) (n + 1) c')).heap[q]? = W3.heap[q]? := fun q hq => Below.heap_setCell _ _ _ _ hq
  have hR4 : Rw (W3.setCell ⟨p, 2, none⟩ (.slice (some ⟨g', o', none⟩) (n + 1) c')) lo 1 (some ⟨g', o', none⟩) (n + 1) c' ((gs ++ [B]).map ptrV) := by
    rw [List.map_append]
    exact hA.row.keep (by simp [World.setCell]) (fun b hbk _ => by obtain ⟨o2, s2, e2⟩ := hbk; cases e2; exact k4 _ hgp.1)
  have c2 := (World.cell?_of_block (w := wr) (a := ⟨p, 2, none⟩) kp).trans h.sl
  have f2 := (World.frozen?_of_block (w := wr) (a := ⟨p, 2, none⟩) kp).trans h.fz
  refine ⟨⟨c2, f2⟩, ?_⟩
  have hlg : lo ≤ g' := by
    rcases hA.row.pt with h0 | ⟨b, o, e, h1, -⟩
    · have := hA.row.le
      omega
    · cases e; exact h1
  refine ⟨?_, ?_, ?_, ?_, h.lop, by simp [h.len], by simp [h.lenc], hA.row.le, hA.row.mx, fun j g hj => ?_, fun j g c1 hj hj2 => ?_, fun _ => ⟨hR4, fun b hbk => ?_⟩⟩
  · rw [World.cell?_setCell_other _ _ _ _ (by simp)]
    exact (World.cell?_of_block (w := wr) (a := ⟨p, 0, none⟩) kp).trans h.kp
  · rw [World.cell?_setCell_other _ _ _ _ (by simp)]
    exact (World.cell?_of_block (w := wr) (a := ⟨p, 1, none⟩) kp).trans h.hr
  · exact World.cell?_setCell_same _ _ _ c2
  · rw [World.frozen?_setCell]
    exact f2
  · have hx : ((gs ++ [B]).map ptrV)[j]? = some (ptrV g) := by rw [List.getElem?_map, hj]; rfl
    obtain ⟨b, o, e1, -, e2⟩ := hR4.cell hx
    have e1' := e1
    cases e1'
    exact ⟨g', o', rfl, .inr hlg, hgp.1, e2⟩
  · rcases Nat.lt_or_ge j gs.length with hjl | hjl
    · rw [List.getElem?_append_left hjl] at hj
      rw [List.getElem?_append_left (by rw [h.lenc, ← h.len]; exact hjl)] at hj2
      obtain ⟨h1, h2, h3⟩ := h.ch j g c1 hj hj2
      exact ⟨h1, h2, h3.keep ((k4 g h2).trans (kg g (List.mem_of_getElem? hj)))⟩
    · have hj0 : j = gs.length := by
        have := (List.getElem?_eq_some_iff.1 hj).1
        simp at this
        omega
      subst hj0
      rw [List.getElem?_append_right (Nat.le_refl _), Nat.sub_self] at hj
      rw [List.getElem?_append_right (by rw [h.lenc, ← h.len]; exact Nat.le_refl _), show gs.length - cs.length = 0 from by rw [h.lenc, h.len]; omega] at hj2
      simp at hj hj2
      subst hj
      subst hj2
      exact ⟨.inr (by omega), by omega, hc.keep ((k4 B (by omega)).trans kB)⟩
  · obtain ⟨o2, s2, e2⟩ := hbk
    cases e2
    exact ⟨hgp.1, by simp [hgp.2.1, hgp.2.2]⟩
set_option maxHeartbeats 1000000 in
theorem with_same {S : Nat → Prop} {p k : Nat} {g : Lg} {a : Option Addr} {cap : Nat} {w : World} (h : LogAt S w p k g a cap) (s : Int) (b : Option Addr) (new : List Chg) (cb : Nat) (hcm : new.length ≤ 9223372036854775807) (hs : s ≤ lastSt g.cs ∨ new = []) :
    Calls Try.prog 9 #[.pointer (some ⟨p, 0, none⟩), .int .i64 s, .slice b new.length cb] w (WithPost S w k (withG k g s new)) := by
  have hl := hid_of (last_any h)
  have e0 : withG k g s new = g := by unfold withG; rw [if_pos hs]
  rw [e0]
  have hpost : Hid (∀ m, WithPost S w k g (.returned (.pointer (some ⟨p, 0, none⟩))) (w.drewN m)) := fun m => ⟨below_drewN (Below.refl _ w) m, p, a, cap, rfl, (h.drewN m).mono (fun b hb hlt => .inl ⟨hb, hlt⟩)⟩
  clear e0
  obtain ⟨n, hn⟩ : ∃ n, Hid (new.length = n) := ⟨_, rfl⟩
  obtain ⟨x, hx⟩ : ∃ x, Hid (lastSt g.cs = x) := ⟨_, rfl⟩
  rw [hx.out] at hl hs
  rw [hn.out] at hcm ⊢
  by_cases h1 : s ≤ x
  · clear h hs
    go_enter Try.func9, Try.ntmps9
    go_wp2_with fail
    refine hl.out.mono ?_
    rintro e w' ⟨rfl, m, rfl⟩
    go_wp2
    go_ret
    exact hpost.out m
  · have h2 : n = 0 := by rw [← hn.out, hs.resolve_left h1]; rfl
    subst h2
    clear h hs
    go_enter Try.func9, Try.ntmps9
    go_wp2_with fail
    refine hl.out.mono ?_
    rintro e w' ⟨rfl, m, rfl⟩
    go_wp2
    go_ret
    exact hpost.out m
/-- The next log, as it is made. -/
structure Nw (W2 w : World) (q : Nat) (k hor : Int) (sl : Value) : Prop where
  kp : w.cell? ⟨q, 0, none⟩ = some (.int .i64 k)
  hr : w.cell? ⟨q, 1, none⟩ = some (.int .i64 hor)
  sl : w.cell? ⟨q, 2, none⟩ = some sl
  f1 : w.frozen? ⟨q, 1, none⟩ = false
  f2 : w.frozen? ⟨q, 2, none⟩ = false
  bel : Below W2.heap.size W2 w
  eq : W2.heap.size = q
theorem Nw.mk' {W2 w : World} {q : Nat} {k hor : Int} {sl : Value} {t : TypeId} (h : w.heap[q]? = some (.cells #[.int .i64 k, .int .i64 hor, sl] t (0, 0))) (hb : Below W2.heap.size W2 w) (he : W2.heap.size = q) : Nw W2 w q k hor sl := by
  have c : ∀ (i : Nat) v, #[Value.int .i64 k, .int .i64 hor, sl][i]? = some v → w.cell? ⟨q, i, none⟩ = some v := fun i v hv => by
    rw [cell_of_row w q i _ t (0, 0) h]
    exact hv
  exact ⟨c 0 _ rfl, c 1 _ rfl, c 2 _ rfl, by simp [World.frozen?, h], by simp [World.frozen?, h], hb, he⟩
theorem Nw.set {W2 w : World} {q : Nat} {k hor : Int} {sl : Value} (h : Nw W2 w q k hor sl) (z : Int) : Nw W2 (w.setCell ⟨q, 1, none⟩ (.int .i64 z)) q k z sl := by
  refine ⟨?_, World.cell?_setCell_same _ _ _ h.hr, ?_, by rw [World.frozen?_setCell]; exact h.f1, by rw [World.frozen?_setCell]; exact h.f2, h.bel.setCell (p := ⟨q, 1, none⟩) (by rw [h.eq]; exact Nat.le_refl _) _, h.eq⟩
  · rw [World.cell?_setCell_other _ _ _ _ (by simp)]; exact h.kp
  · rw [World.cell?_setCell_other _ _ _ _ (by simp)]; exact h.sl
theorem ptrs_list {S : Nat → Prop} {w : World} {a : Option Addr} {l : List Chg} (h : PtrsAt S w a l) : ∃ gs : List Nat, gs.length = l.length ∧ ∀ (j g : Nat) c, gs[j]? = some g → l[j]? = some c → (∃ b o, a = some ⟨b, o, none⟩ ∧ S b ∧ w.cell? ⟨b, o + j, none⟩ = some (ptrV g)) ∧ S g ∧ ChgCell w g 0 c := by
  have hx : ∀ j, j < l.length → ∃ g, (∃ b o, a = some ⟨b, o, none⟩ ∧ S b ∧ w.cell? ⟨b, o + j, none⟩ = some (ptrV g)) ∧ S g ∧ ∀ c, l[j]? = some c → ChgCell w g 0 c := fun j hj => by
    obtain ⟨b, o, g, h1, h2, h3, h4, h5⟩ := h j _ (List.getElem?_eq_getElem hj)
    exact ⟨g, ⟨b, o, h1, h2, h4⟩, h3, fun c hc => by rw [List.getElem?_eq_getElem hj] at hc; cases hc; exact h5⟩
  refine ⟨(List.range l.length).map fun j => if hj : j < l.length then (hx j hj).choose else 0, by simp, fun j g c hg hc => ?_⟩
  have hj := (List.getElem?_eq_some_iff.1 hc).1
  rw [List.getElem?_map, List.getElem?_range hj] at hg
  simp only [Option.map_some, Option.some.injEq] at hg
  rw [dif_pos hj] at hg
  obtain ⟨h1, h2, h3⟩ := (hx j hj).choose_spec
  rw [hg] at h1 h2 h3
  exact ⟨h1, h2, h3 c hc⟩
theorem nx_start {S : Nat → Prop} {W2 w : World} {a : Option Addr} {cs : List Chg} {q gn : Nat} {k hor : Int} {L sn : Nat} (h : PtrsAt S W2 a cs) (hL : cs.length = L) (hsn : L - gn = sn) (hgl : gn ≤ L) (hN : Nw W2 w q k hor (.slice (advA a gn 1 L) sn sn)) (hmx : sn ≤ maxLen) : ∃ gs, Nx S W2.heap.size w q k hor (advA a gn 1 L) sn sn gs (cs.drop gn) := by
  subst hL
  obtain ⟨gs, hg1, hg2⟩ := ptrs_list (h.drop gn cs.length (fun e => by omega))
  have hq := hN.eq
  have hlen : (cs.drop gn).length = sn := by rw [List.length_drop]; exact hsn
  refine ⟨gs, hN.kp, hN.hr, hN.sl, hN.f2, by omega, by omega, hlen, Nat.le_refl _, hmx, fun j g hj => ?_, fun j g c hj hc => ?_, fun h' => absurd h' (Nat.lt_irrefl _)⟩
  · have hj' := (List.getElem?_eq_some_iff.1 hj).1
    obtain ⟨⟨b, o, h1, h2, h3⟩, -, -⟩ := hg2 j g _ hj (List.getElem?_eq_getElem (by omega))
    have hlt : b < W2.heap.size := lt_of_cell h3
    exact ⟨b, o, h1, .inl ⟨h2, hlt⟩, by omega, stay hN.bel h3⟩
  · obtain ⟨-, h2, h3⟩ := hg2 j g c hj hc
    exact ⟨.inl ⟨h2, h3.lt⟩, by have := h3.lt; omega, h3.keep (hN.bel.block _ h3.lt)⟩
theorem ptr_info : ∃ ri, Try.prog.info? 59 = some ri ∧ ri.zero = some (.pointer none) ∧ ri.size = 1 ∧ ri.bytes = 8 := by
  have : (Try.prog.info? 59).map (fun i => (i.zero, i.size, i.bytes)) = some (some (.pointer none), 1, 8) := by kernel_rfl
  cases hq : Try.prog.info? 59 with
  | none => rw [hq] at this; cases this
  | some ri => rw [hq] at this; simp at this; exact ⟨ri, rfl, this.1, this.2.1, this.2.2⟩
set_option maxHeartbeats 4000000 in
set_option maxRecDepth 100000 in
theorem with_new {S T : Nat → Prop} {p k : Nat} {g : Lg} {a : Option Addr} {cap : Nat} {w : World} (h : LogAt S w p k g a cap) (hok : g.Ok k) (hk1 : 1 ≤ k) (hk2 : k ≤ 4096) (s : Int) (b : Option Addr) (new : List Chg) (cb : Nat) (hN : ChgsAt T w b new) (hcb : new.length ≤ cb) (hcm : cb ≤ 9223372036854775807) (hs : lastSt g.cs < s) (hne : new ≠ []) :
    Calls Try.prog 9 #[.pointer (some ⟨p, 0, none⟩), .int .i64 s, .slice b new.length cb] w (WithPost S w k (withG k g s new)) := by
  have hlast := hid_of (last_any h)
  have e0 := hid_of (withG_code (s := s) (new := new) hok hs hne)
  obtain ⟨x, hx⟩ : ∃ x, Hid (lastSt g.cs = x) := ⟨_, rfl⟩
  rw [hx.out] at hlast hs
  have hn0 : 0 < new.length := List.length_pos_iff.2 hne
  obtain ⟨n, hn⟩ : ∃ n, Hid (new.length = n) := ⟨_, rfl⟩
  have hl1 := hid_of (fun w => lastOfc_any b new.length cb k hcb hcm (by omega) w)
  rw [hn.out] at hl1 hn0 hcb ⊢
  obtain ⟨m, hm⟩ : ∃ m, Hid (n - (n - k) = m) := ⟨_, rfl⟩
  have hmk : m ≤ k := by have := hm.out; omega
  rw [hm.out] at hl1
  obtain ⟨L, hL⟩ : ∃ L, Hid (g.cs.length = L) := ⟨_, rfl⟩
  have hl2 := hid_of (fun w => lastOfp_any a g.cs.length cap (k - m) h.le h.mx (by omega) w)
  rw [hL.out, show ((k - m : Nat) : Int) = (k : Int) - (m : Int) from by omega] at hl2
  have c0 := h.kp
  have c1 := h.hr
  have c2 := h.sl
  have cl := h.le
  have cx := h.mx
  rw [hL.out] at c2 cl
  obtain ⟨gn, hgn⟩ : ∃ gn, Hid (L - (k - m) = gn) := ⟨_, rfl⟩
  obtain ⟨ov, hov⟩ : ∃ ov, Hid (n - k = ov) := ⟨_, rfl⟩
  rw [hgn.out] at hl2
  rw [hov.out] at hl1
  obtain ⟨a1, ha1⟩ : ∃ a1, Hid (advA a gn 1 L = a1) := ⟨_, rfl⟩
  obtain ⟨sn, hsn⟩ : ∃ sn, Hid (L - gn = sn) := ⟨_, rfl⟩
  obtain ⟨b1, hb1⟩ : ∃ b1, Hid (advA b ov 4 n = b1) := ⟨_, rfl⟩
  obtain ⟨h1, hh1⟩ : ∃ h1, Hid ((if 0 < gn then lastSt (g.cs.take gn) else g.hor) = h1) := ⟨_, rfl⟩
  rw [ha1.out, hsn.out] at hl2
  rw [hb1.out] at hl1
  have hwr : IntKind.i64.wrap ((k : Int) - (m : Int)) = (k : Int) - (m : Int) := wrap_in (by omega) (by omega)
  replace h := hid_of h
  replace hok := hid_of hok
  replace hN := hid_of hN
  go_enter Try.func9, Try.ntmps9
  go_wp2_with fail
  refine hlast.out.mono ?_
  rintro e W1 ⟨rfl, m1, rfl⟩
  clear hlast
  have hsx : ¬ s ≤ x := by omega
  have hnz : ((n : Int) == 0) = false := by simp; omega
  go_wp2_with fail
  refine (hl1.out _).mono ?_
  rintro e W2 ⟨rfl, m2, hW2⟩
  have hb2 : Below w.heap.size w W2 := by rw [hW2]; exact below_drewN (below_drewN (Below.refl _ w) m1) m2
  have hz2 : Hid (W2.heap.size = w.heap.size) := by show _ = _; rw [hW2]; rfl
  replace c0 := stay hb2 c0
  replace c1 := stay hb2 c1
  replace c2 := stay hb2 c2
  replace h := hid_of (h.out.below hb2)
  replace hN := hid_of (hN.out.below hb2)
  replace hb2 := hid_of hb2
  clear hl1 hW2
  go_wp2_with fail
  go_quiet ((go_at_call 28; exact Calls.quiet_of (hl2.out _)))
  clear hl2
  go_wp2_with fail
  go_region_held3 (fun w' => w'.cell? ⟨p, 0, none⟩ = some (.int .i64 k) ∧ w'.cell? ⟨p, 1, none⟩ = some (.int .i64 g.hor)) (go_keep) (fail)
  rename_i hHeld
  clear hHeld
  obtain ⟨W3, hW3⟩ : ∃ W3, Hid ((W2.drewN (nq + 1)).alloc (.cells #[.int .i64 k, .int .i64 g.hor, .slice a1 sn sn] 56) = W3) := ⟨_, rfl⟩
  rw [hW3.out]
  obtain ⟨q, hq⟩ : ∃ q, Hid (W2.heap.size = q) := ⟨_, rfl⟩
  have hblk : W3.heap[W2.heap.size]? = some (.cells #[.int .i64 k, .int .i64 g.hor, .slice a1 sn sn] 56 (0, 0)) := by rw [← hW3.out]; exact heap_alloc_new (W2.drewN (nq + 1)) _
  have hb3 : Below W2.heap.size W2 W3 := by rw [← hW3.out]; exact (below_drewN (Below.refl _ W2) (nq + 1)).alloc (Nat.le_refl _) _
  rw [hq.out] at hblk ⊢
  obtain ⟨ri, hri, hri1, hri2, hri3⟩ := ptr_info
  have hNw3 := hid_of (Nw.mk' hblk hb3 hq.out)
  clear hW3 hblk c0 c1 c2
  go_upto_if 65 with fail
  go_cut [] from 63 (fun wx => Hid (Nw W2 wx q k h1 (.slice a1 sn sn)))
  case first =>
    by_cases h0 : 0 < gn
    · have hh := hh1.out
      rw [if_pos h0] at hh
      obtain ⟨gm, rfl⟩ : ∃ gm, gn = gm + 1 := ⟨gn - 1, by omega⟩
      have hgl : gm < g.cs.length := by have := hgn.out; have := hL.out; omega
      have he := List.getElem?_eq_getElem hgl
      obtain ⟨b2, o1, g1, hab, -, -, h4, h5⟩ := h.out.row gm _ he
      have hst := lastSt_get (g.cs.take (gm + 1)) gm _ (by rw [List.getElem?_take_of_lt (by omega)]; exact he) (by rw [List.length_take]; omega)
      have y1 := h5.st
      rw [← hst, hh] at y1
      replace h4 := stay hb3 h4
      replace y1 := stay hb3 y1
      have c1 := hNw3.out.hr
      have f1 := hNw3.out.f1
      have hend := hid_of (hNw3.out.set h1)
      have hgb : (gm : Int) ≤ 4096 := by have := hgn.out; have := hok.out.len; omega
      clear he h5 hst hgl h0 hh
      subst hab
      go_wp2_with fail
      go_meet
      exact hend.out
    · have hh := hh1.out
      rw [if_neg h0] at hh
      have hend := hNw3
      rw [hh] at hend
      clear hh
      go_wp2_with fail
      go_meet
      exact hend
  case rest =>
    clear hNw3 hb3 W3
    go_upto_if 80 with fail
    obtain ⟨h2, hh2⟩ : ∃ h2, Hid ((if 0 < ov then s else h1) = h2) := ⟨_, rfl⟩
    go_cut [] from 63 (fun wx => Hid (Nw W2 wx q k h2 (.slice a1 sn sn)))
    case first =>
      by_cases h0 : 0 < ov
      · have hh := hh2.out
        rw [if_pos h0] at hh
        subst hh
        have c1 := hcut.out.hr
        have f1 := hcut.out.f1
        have hend := hid_of (hcut.out.set s)
        go_wp2_with fail
        go_meet
        exact hend.out
      · have hh := hh2.out
        rw [if_neg h0] at hh
        subst hh
        have hend := hcut
        go_wp2_with fail
        go_meet
        exact hend
    case rest =>
      have hsL : sn + m ≤ k := by have := hsn.out; have := hgn.out; have := hok.out.len; have := hL.out; omega
      obtain ⟨gs0, hst⟩ : ∃ gs, Hid (Nx S w.heap.size wc q k h2 a1 sn sn gs (g.cs.drop gn)) := by
        have := hcut.out
        rw [← ha1.out] at this ⊢
        rw [← hz2.out]
        exact nx_start h.out.row hL.out hsn.out (by have := hgn.out; omega) this (by unfold maxLen; omega)
      have hD : Hid (ChgsAt T W2 b1 (new.drop ov)) := by
        rw [← hb1.out]
        exact hN.out.drop ov n (fun e => by rw [hn.out]; have := hov.out; omega)
      have hml : Hid ((new.drop ov).length = m) := by
        show _ = _
        rw [List.length_drop, hn.out]
        have := hov.out
        have := hm.out
        omega
      have hb2c : Hid (Below w.heap.size w wc) := hb2.out.trans (by rw [← hz2.out]; exact hcut.out.bel)
      have hWc : Hid (Below W2.heap.size W2 wc) := hcut.out.bel
      clear hcut
      go_wp2_with fail
      go_loopw [87] (fun iv wr => ∃ (i : Nat) (aq : Option Addr) (cq : Nat) (gs : List Nat), iv = .int .i64 (i : Nat) ∧ i ≤ m ∧ Hid (Below W2.heap.size W2 wr) ∧ Hid (Nx S w.heap.size wr q k h2 aq (sn + i) cq gs (g.cs.drop gn ++ ((new.drop ov).take i).map (Chg.at s)))) (fun iv _ => m - (intOf iv).toNat)
      case atStart => exact ⟨0, a1, sn, gs0, rfl, Nat.zero_le _, hWc, by simpa using hst⟩
      case round =>
        clear hst hWc hb2c
        obtain ⟨i, aq, cq, gs, rfl, him, hBr, hX⟩ := hrel
        by_cases hi : i < m
        · have hil : i < (new.drop ov).length := by rw [hml.out]; exact hi
          obtain ⟨⟨cst, cnm, cid, ckd⟩, hc⟩ : ∃ c, (new.drop ov)[i]? = some c := ⟨_, List.getElem?_eq_getElem hil⟩
          obtain ⟨b2, o2, hb1e, -, hcc⟩ := hD.out i _ hc
          have hcc' := hcc.keep (hBr.out.block _ hcc.lt)
          have d0 := hcc'.st
          have d1 := hcc'.nm
          have d2 := hcc'.id
          have d3 := hcc'.kd
          simp only at d0 d1 d2 d3
          subst hb1e
          clear hcc hcc' hil
          replace hc := hid_of hc
          have c2 := hX.out.sl
          go_upto_region 14 with fail
          obtain ⟨W4, hW4⟩ : ∃ W4, Hid (wr.alloc (.cells #[.int .i64 s, .string cnm, .string cid, .int .i64 ckd] 30) = W4) := ⟨_, rfl⟩
          obtain ⟨W5, hW5⟩ : ∃ W5, Hid (W4.alloc (.cells #[.pointer (some ⟨wr.heap.size, 0, none⟩)] 59) = W5) := ⟨_, rfl⟩
          rw [hW4.out]
          have hB4 : Below wr.heap.size wr W4 := by rw [← hW4.out]; exact (Below.refl _ wr).alloc (Nat.le_refl _) _
          have hB5 : Below W4.heap.size W4 W5 := by rw [← hW5.out]; exact (Below.refl _ W4).alloc (Nat.le_refl _) _
          have hB45 : Below wr.heap.size wr W5 := hB4.trans (hB5.mono hB4.size)
          have k4 : ChgCell W4 wr.heap.size 0 ⟨s, cnm, cid, ckd⟩ := by
            have hh : W4.heap[wr.heap.size]? = some (.cells #[.int .i64 s, .string cnm, .string cid, .int .i64 ckd] 30 (0, 0)) := by rw [← hW4.out]; exact heap_alloc_new wr _
            exact ⟨by rw [cell_of_row W4 wr.heap.size 0 _ _ _ hh]; rfl, by rw [cell_of_row W4 wr.heap.size 1 _ _ _ hh]; rfl, by rw [cell_of_row W4 wr.heap.size 2 _ _ _ hh]; rfl, by rw [cell_of_row W4 wr.heap.size 3 _ _ _ hh]; rfl⟩
          have k5 := k4.keep (hB5.block _ k4.lt)
          have hsrc : Src Try.prog 1 54 (.slice (some ⟨W4.heap.size, 0, none⟩) 1 1) 1 [ptrV wr.heap.size] W5 := by
            rw [← hW5.out]
            exact Src.of_block Try.underlying54 (heap_alloc_new W4 _) 1 1 rfl (fun u hu => by simp at hu; subst hu; rfl)
          have hlo : w.heap.size ≤ wr.heap.size := by rw [← hz2.out]; exact hBr.out.size
          have x1 : Hid ((gs.map ptrV).length = (sn + i) * 1) := by show _ = _; rw [List.length_map, hX.out.len, Nat.mul_one]
          have x2 := hid_of hX.out.le
          have x3 := hid_of hX.out.mx
          have x4 : Hid (∀ j u, (gs.map ptrV)[j]? = some u → ∃ b o, aq = some ⟨b, o, none⟩ ∧ W5.cell? ⟨b, o + j, none⟩ = some u) := fun j u hj => by
            rw [List.getElem?_map] at hj
            cases hg : gs[j]? with
            | none => rw [hg] at hj; cases hj
            | some g1 =>
              rw [hg] at hj
              cases hj
              obtain ⟨b3, o3, y1, -, -, y2⟩ := hX.out.rd j g1 hg
              exact ⟨b3, o3, y1, stay hB45 y2⟩
          have x5 : Hid (sn + i + 1 ≤ cq → Rw W5 w.heap.size 1 aq (sn + i) cq (gs.map ptrV)) := fun h' => (hX.out.room (by omega)).1.below hB45
          have x6 : Hid (sn + i + 1 ≤ maxLen ∧ (sn + i + 1) * 8 ≤ 140737488355328 ∧ w.heap.size ≤ W5.heap.size) := by
            have := hB45.size
            unfold maxLen
            exact ⟨by omega, by omega, by omega⟩
          have hstep := hid_of (fun g1 o1 c1 W6 hA => hX.out.step (W2 := W5) (W3 := W6) (c := ⟨s, cnm, cid, ckd⟩) (B := wr.heap.size) (g' := g1) (o' := o1) (c' := c1) hlo hB45 (Nat.le_refl _) k5 hA)
          replace c2 := stay hB4 c2
          have hmap : Hid (((new.drop ov).take (i + 1)).map (Chg.at s) = ((new.drop ov).take i).map (Chg.at s) ++ [⟨s, cnm, cid, ckd⟩]) := by
            show _ = _
            rw [List.take_add_one, hc.out]
            simp [Chg.at]
          have hsz6 : Hid (∀ g1 o1 c1 W6, Appd W5 w.heap.size 1 aq (sn + i) 1 cq (gs.map ptrV ++ [ptrV wr.heap.size]) g1 o1 c1 W6 → Below W2.heap.size W2 (W6.setCell ⟨q, 2, none⟩ (.slice (some ⟨g1, o1, none⟩) (sn + i + 1) c1))) := fun g1 o1 c1 W6 hA => by
            have hq' := hq.out
            refine Below.setCell (p := ⟨q, 2, none⟩) ?_ (by show W2.heap.size ≤ q; omega) _
            have hBs : Below W2.heap.size W2 W5 := hBr.out.trans (hB45.mono hBr.out.size)
            refine ⟨hA.fr.os.trans hBs.os, hA.fr.tape.trans hBs.tape, hA.fr.output.trans hBs.output, Nat.le_trans hBs.size hA.fr.size, fun z hz => ?_⟩
            refine (hA.fr.block z (Nat.lt_of_lt_of_le hz hBs.size) (fun e => ?_)).trans (hBs.block z hz)
            obtain ⟨hR, -⟩ := hX.out.room (by omega)
            rcases hR.pt with h0 | ⟨b3, o3, e3, l3, -⟩
            · have := e.2; omega
            · obtain ⟨o4, s4, e4⟩ := e.1
              rw [e3] at e4
              cases e4
              have := hz2.out
              omega
          clear hB4 hB5 hB45 k4 k5 hlo hW4 d0 d1 d2 d3
          go_wp2_with (first
            | rw [hW5.out]
            | (at_builtin; go_must (refine wpList_append_rw W5 rfl _ _ 54 rfl 59 ri _ 1 8 Try.underlying54 hri hri1 hri2 hri3 rfl w.heap.size aq (sn + i) cq (gs.map ptrV) rfl x1.out x2.out x3.out x4.out _ rfl 1 [ptrV wr.heap.size] hsrc x5.out (by decide) x6.out.1 x6.out.2.1 x6.out.2.2 ?_); intro g1 o1 c1 W6 hA; obtain ⟨⟨u1, u2⟩, hX6⟩ := hstep.out g1 o1 c1 W6 hA; replace hX6 := hid_of hX6; have hB6 := hid_of (hsz6.out g1 o1 c1 W6 hA); clear hA hsrc hstep hsz6 x4 x5 c2))
          go_roundw
          case rel => exact ⟨i + 1, _, _, _, by go_num, by omega, hB6, by rw [hmap.out, ← List.append_assoc]; exact hX6⟩
          case measure =>
            simp only [intOf]
            omega
        · obtain rfl : i = m := by omega
          have hfin : Hid (WithPost S w k (withG k g s new) (.returned (.pointer (some ⟨q, 0, none⟩))) wr) := by
            refine ⟨hb2.out.trans (by rw [← hz2.out]; exact hBr.out), q, aq, cq, rfl, ?_⟩
            have := hX.out.log
            rw [List.take_of_length_le (by rw [hml.out]; exact Nat.le_refl _)] at this
            rw [e0.out, hn.out, hov.out, hL.out, ← hov.out, hm.out, hov.out, hgn.out, hh1.out, hh2.out]
            exact this
          clear hX
          go_wp2_with fail
          go_ret
          exact hfin.out
theorem with_any {S T : Nat → Prop} {p k : Nat} {g : Lg} {a : Option Addr} {cap : Nat} {w : World} (h : LogAt S w p k g a cap) (hok : g.Ok k) (hk1 : 1 ≤ k) (hk2 : k ≤ 4096) (s : Int) (b : Option Addr) (new : List Chg) (cb : Nat) (hN : ChgsAt T w b new) (hcb : new.length ≤ cb) (hcm : cb ≤ 9223372036854775807) :
    Calls Try.prog 9 #[.pointer (some ⟨p, 0, none⟩), .int .i64 s, .slice b new.length cb] w (WithPost S w k (withG k g s new)) := by
  by_cases hs : s ≤ lastSt g.cs ∨ new = []
  · exact with_same h s b new cb (by omega) hs
  · exact with_new h hok hk1 hk2 s b new cb hN hcb hcm (by rcases Int.lt_or_le (lastSt g.cs) s with h' | h'; · exact h'
                                                           · exact absurd (.inl h') hs) (fun e => hs (.inr e))
end Go.Proofs.Ytpdcinicnekeoaa
