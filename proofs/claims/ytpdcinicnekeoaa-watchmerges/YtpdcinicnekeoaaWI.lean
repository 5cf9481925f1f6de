import Derived.Test.YtpdcinicnekeoaaWH
/-! watch: After. -/
namespace Go.Proofs.Ytpdcinicnekeoaa
open Go Go.RowKit Go.Watch
theorem Rw.lower {w : World} {lo lo' size : Nat} {a : Option Addr} {n cap : Nat} {xs : List Value} (h : Rw w lo size a n cap xs) (hl : lo' ≤ lo) : Rw w lo' size a n cap xs := by
  refine ⟨h.len, h.le, h.mx, ?_⟩
  rcases h.pt with h' | ⟨b', o', q1, q2, q3⟩
  · exact .inl h'
  · exact .inr ⟨b', o', q1, Nat.le_trans hl q2, q3⟩
structure AfterPost (w : World) (told : List Chg) (up err : Int) (e : Ending) (w' : World) : Prop where
  bel : Below w.heap.size w w'
  row : ∃ xa xc, e = .returned (.tuple #[.slice xa told.length xc, .int .i64 up, .int .i64 err]) ∧ Rw w' w.heap.size 4 xa told.length xc (flatC told)
set_option maxHeartbeats 1000000 in
theorem after_gone {S : Nat → Prop} {p k : Nat} {g : Lg} {a : Option Addr} {cap : Nat} {w : World} (h : LogAt S w p k g a cap) (af lim : Int) (inn : ByteArray) (hg : af < g.hor) :
    Calls Try.prog 7 #[.pointer (some ⟨p, 0, none⟩), .int .i64 af, .int .i64 lim, .string inn] w (AfterPost w (toldT g af lim inn) (uptoT g af lim inn) (errT g af)) := by
  have e1 : toldT g af lim inn = [] := if_pos hg
  have e2 : uptoT g af lim inn = 0 := if_pos hg
  have e3 : errT g af = 180 := if_pos hg
  rw [e1, e2, e3]
  clear e1 e2 e3
  have hpost : Hid (AfterPost w [] 0 180 (.returned (.tuple #[.slice none 0 0, .int .i64 0, .int .i64 180])) w) := ⟨Below.refl _ w, none, 0, rfl, Rw.nil w _ _ _⟩
  have c1 := h.hr
  clear h
  go_enter Try.func7, Try.ntmps7
  go_wp2_with fail
  go_ret3
  exact hpost.out
set_option maxHeartbeats 4000000 in
set_option maxRecDepth 100000 in
theorem after_has {S : Nat → Prop} {p k : Nat} {g : Lg} {a : Option Addr} {cap : Nat} {w : World} (h : LogAt S w p k g a cap) (hok : g.Ok k) (hk2 : k ≤ 4096) (hbd : ∀ c ∈ g.cs, c.st ≤ 9223372036854775807) (af lim : Int) (inn : ByteArray) (hg : ¬ af < g.hor) :
    Calls Try.prog 7 #[.pointer (some ⟨p, 0, none⟩), .int .i64 af, .int .i64 lim, .string inn] w (AfterPost w (toldT g af lim inn) (uptoT g af lim inn) (errT g af)) := by
  have e1 : toldT g af lim inn = (asked g.cs af inn).take (fit (asked g.cs af inn) lim) := if_neg hg
  have e2 : uptoT g af lim inn = if fit (asked g.cs af inn) lim < (asked g.cs af inn).length then lastSt ((asked g.cs af inn).take (fit (asked g.cs af inn) lim)) else max af (lastSt g.cs) := if_neg hg
  have e3 : errT g af = 0 := if_neg hg
  rw [e1, e2, e3]
  clear e1 e2 e3
  have hlen := hok.len
  have c1 := h.hr
  have c2 := h.sl
  have cl := h.le
  have cx := h.mx
  have hup := hid_of (upTo_any (w := w.drew) (cap := cap) af (h.row.drewN 1) hok.rise (by omega))
  have hul := upT_le g.cs af
  have hcut := hid_of (fun W => cutp_any a g.cs.length cap (upT g.cs af) hul cl W)
  have hab : Hid (PtrsAt S w (advA a (upT g.cs af) 1 g.cs.length) (g.cs.drop (upT g.cs af))) := h.row.drop _ _ (fun e => by omega)
  have hdr := drop_upT g.cs af hok.rise
  have hdl : Hid (g.cs.length - upT g.cs af = (g.cs.filter fun c => decide (af < c.st)).length) := by
    show _ = _
    rw [← hdr, List.length_drop]
  rw [hdr] at hab
  have hask : Hid ((g.cs.filter fun c => decide (af < c.st)).filter (pickB inn) = asked g.cs af inn) := rfl
  obtain ⟨a1, ha1⟩ : ∃ a1, Hid (advA a (upT g.cs af) 1 g.cs.length = a1) := ⟨_, rfl⟩
  obtain ⟨u, hu⟩ : ∃ u, Hid (upT g.cs af = u) := ⟨_, rfl⟩
  obtain ⟨ab, habe⟩ : ∃ ab, Hid ((g.cs.filter fun c => decide (af < c.st)) = ab) := ⟨_, rfl⟩
  have habl : ab.length ≤ 4096 := by rw [← habe.out]; have := List.length_filter_le (fun c => decide (af < c.st)) g.cs; omega
  rw [ha1.out] at hcut hab
  rw [habe.out] at hab hask hdl
  rw [hdl.out] at hcut
  rw [hu.out] at hcut hup
  obtain ⟨L, hL⟩ : ∃ L, Hid (g.cs.length = L) := ⟨_, rfl⟩
  rw [hL.out] at c2 cl hcut hup hlen
  obtain ⟨qs, hqs⟩ : ∃ qs, Hid (asked g.cs af inn = qs) := ⟨_, rfl⟩
  have hqr : Hid (Rise qs) := by rw [← hqs.out]; exact asked_rise hok.rise af inn
  have hqp : Hid (∀ c ∈ qs, 1 ≤ c.st ∧ c.st ≤ 9223372036854775807) := fun c hc => by
    rw [← hqs.out] at hc
    have := asked_mem hc
    exact ⟨hok.pos c this.1, hbd c this.1⟩
  have hql : qs.length ≤ 4096 := by rw [← hqs.out]; have := asked_len g.cs af inn; have := hL.out; omega
  rw [hqs.out] at hask ⊢
  have hla := hid_of (fun W (hB : Below w.heap.size w W) => last_any (h.below hB))
  obtain ⟨x, hx⟩ : ∃ x, Hid (lastSt g.cs = x) := ⟨_, rfl⟩
  rw [hx.out] at hla ⊢
  have hfl := fit_le qs lim
  obtain ⟨f, hf⟩ : ∃ f, Hid (fit qs lim = f) := ⟨_, rfl⟩
  obtain ⟨up, hupe⟩ : ∃ up, Hid ((if f < qs.length then lastSt (qs.take f) else max af x) = up) := ⟨_, rfl⟩
  rw [hf.out, hupe.out]
  rw [hf.out] at hfl
  obtain ⟨abn, habn⟩ : ∃ n, Hid (ab.length = n) := ⟨_, rfl⟩
  rw [habn.out] at hcut habl
  obtain ⟨n, hn⟩ : ∃ n, Hid (qs.length = n) := ⟨_, rfl⟩
  rw [hn.out] at hupe hfl hql
  clear hul hdr h hok hbd
  go_enter Try.func7, Try.ntmps7
  go_wp2_with fail
  go_region_held3 (fun w' => w'.cell? ⟨p, 2, none⟩ = some (.slice a L cap)) (go_keep) (first
    | (go_at_call 23; refine hup.out.mono ?_; rintro e Z1 ⟨rfl, hz1⟩; have t0 : Z1.cell? ⟨p, 2, none⟩ = some (.slice a L cap) := stay hz1 c2; replace hz1 := hid_of hz1)
    | (go_at_call 22; refine (hcut.out _).mono ?_; rintro e Z2 ⟨rfl, m2, rfl⟩; have t1 : (Z1.drewN m2).cell? ⟨p, 2, none⟩ = some (.slice a L cap) := t0))
  rename_i hHeld
  clear hHeld
  have hB3 : Below w.heap.size w (Z1.drewN m2) := below_drewN ((below_drew (Below.refl _ w)).trans hz1.out) m2
  obtain ⟨W3, hW3⟩ : ∃ W3, Hid (Z1.drewN m2 = W3) := ⟨_, rfl⟩
  rw [hW3.out] at hB3 ⊢
  clear hz1 t0 t1 hW3 Z1 hcut hup c1 c2
  have hof := hid_of (of_any inn (hab.out.below hB3) (Nat.le_refl ab.length) (by rw [habn.out]; omega) (by rw [habn.out]; omega))
  rw [hask.out, habn.out] at hof
  go_wp2_with fail
  refine hof.out.mono ?_
  rintro e W4 ⟨hB4, a4, cap4, rfl, hc4, hm4, hP4⟩
  have hB04 : Below w.heap.size w W4 := hB3.trans (hB4.mono hB3.size)
  have hft := hid_of (fitting_any (cap := cap4) lim hP4 hqr.out (by rw [hn.out]; omega) hqp.out)
  have hct := hid_of (fun W => cutp_any a4 qs.length cap4 f (by rw [hn.out]; exact hfl) hc4 W)
  rw [hf.out, hn.out] at hft
  rw [hn.out] at hct hc4
  rw [hn.out]
  replace hP4 := hid_of hP4
  replace hB04 := hid_of hB04
  clear hof hB4 hB3 hab
  go_wp2_with fail
  refine hft.out.mono ?_
  rintro e W5 ⟨rfl, hB5⟩
  have hP5 := hid_of (hP4.out.below hB5)
  have hB05 : Hid (Below w.heap.size w W5) := hB04.out.trans (hB5.mono hB04.out.size)
  clear hft hB5 hP4 hB04
  go_wp2_with fail
  refine (hct.out _).mono ?_
  rintro e W6 ⟨rfl, m6, hW6⟩
  have hB6 : Below W5.heap.size W5 W6 := by rw [hW6]; exact below_drewN (Below.refl _ W5) m6
  have hP6 := hid_of ((hP5.out.below hB6).take f)
  have hB06 : Hid (Below w.heap.size w W6) := hB05.out.trans (hB6.mono hB05.out.size)
  have hft : Hid ((qs.take f).length = f) := by show _ = _; rw [List.length_take, hn.out]; omega
  have hcp := hid_of (fun W (hB : Below W6.heap.size W6 W) => copies_any (cap := f) (hP6.out.below hB) (by rw [hft.out]; exact Nat.le_refl _) (by rw [hft.out]; omega))
  rw [hft.out] at hcp
  obtain ⟨fr, hfr⟩ : ∃ fr, Hid (n - f = fr) := ⟨_, rfl⟩
  obtain ⟨a6, ha6⟩ : ∃ a6, Hid (advA a4 f 1 n = a6) := ⟨_, rfl⟩
  have hpost : Hid (∀ g' o' w', Below w.heap.size w w' → Rw w' w.heap.size 4 (some ⟨g', o', none⟩) f f (flatC (qs.take f)) → AfterPost w (qs.take f) up 0 (.returned (.tuple #[.slice (some ⟨g', o', none⟩) f f, .int .i64 up, .int .i64 0])) w') := fun g' o' w' h1 h2 => ⟨h1, some ⟨g', o', none⟩, f, by rw [hft.out], by rw [hft.out]; exact h2⟩
  rw [hfr.out, ha6.out]
  clear hct hB6 hW6 hP5 hB05
  by_cases hlt : f < n
  · have hup := hupe.out
    rw [if_pos hlt] at hup
    have hf0 : 0 < f := by
      rw [← hf.out]
      exact fit_pos hqr.out lim (fun e => by have := hn.out; rw [e] at this; simp at this; omega)
    obtain ⟨m, hme⟩ : ∃ m, Hid (f - 1 = m) := ⟨_, rfl⟩
    have hmf : m < f := by have := hme.out; omega
    have hml : m < (qs.take f).length := by rw [hft.out]; exact hmf
    have he := List.getElem?_eq_getElem hml
    obtain ⟨b1, o1, g1, hae, -, -, h4, h5⟩ := hP6.out m _ he
    have hst := lastSt_get _ _ _ he (by rw [hft.out]; have := hme.out; omega)
    have y0 := h5.st
    rw [← hst, hup] at y0
    have hfr0 : 0 < fr := by have := hfr.out; omega
    subst hae
    replace hcp := hid_of (hcp.out W6.drew (below_drew (Below.refl _ W6)))
    have hm9 : (m : Int) ≤ 4096 := by omega
    have hm8 : (0 : Int) ≤ (m : Int) := by omega
    have hm7 : (m : Int) < (f : Int) := by omega
    have hm6 : IntKind.i64.wrap ((f : Int) - 1) = (m : Int) := by have := hme.out; rw [wrap_in (by omega) (by omega)]; omega
    clear he h5 hst hml hup hf0 hP6 hla hlt
    go_wp2_with fail
    go_region_held3 (fun w' => w'.cell? ⟨b1, o1 + m, none⟩ = some (.pointer (some ⟨g1, 0, none⟩)) ∧ w'.cell? ⟨g1, 0, none⟩ = some (.int .i64 up)) (go_keep) (first
      | (go_at_call 26; refine hcp.out.mono ?_; rintro e Z1 ⟨hz1, g9, o9, rfl, hR9⟩; have t0 : Z1.cell? ⟨b1, o1 + m, none⟩ = some (.pointer (some ⟨g1, 0, none⟩)) := stay hz1 h4; have t1 : Z1.cell? ⟨g1, 0, none⟩ = some (.int .i64 up) := stay hz1 y0; replace hz1 := hid_of hz1; replace hR9 := hid_of hR9; rw [hft.out]))
    rw [hft.out] at hR9
    have hfin := hid_of (hpost.out g9 o9 Z1 ((below_drew hB06.out).trans (hz1.out.mono hB06.out.size)) (hR9.out.lower hB06.out.size))
    clear hcp hR9 hz1
    go_wp2_with fail
    go_ret3
    exact hfin.out
  · have hup := hupe.out
    rw [if_neg hlt] at hup
    obtain rfl : f = n := by omega
    have hfr0 : fr = 0 := by have := hfr.out; omega
    subst hfr0
    replace hcp := hid_of (hcp.out W6 (Below.refl _ W6))
    clear hP6
    go_wp2_with fail
    refine hcp.out.mono ?_
    rintro e Z1 ⟨hz1, g9, o9, rfl, hR9⟩
    rw [hft.out] at hR9 ⊢
    have hB7 : Below w.heap.size w Z1 := hB06.out.trans (hz1.mono hB06.out.size)
    replace hla := hid_of (hla.out Z1 hB7)
    have hfin := hid_of (fun m => hpost.out g9 o9 (Z1.drewN m) (below_drewN hB7 m) ((hR9.below (below_drewN (Below.refl _ Z1) m)).lower hB06.out.size))
    clear hcp hR9 hz1 hB7
    by_cases hax : af < x
    · have hux : up = x := by rw [← hup]; omega
      subst hux
      clear hup
      go_wp2_with fail
      refine hla.out.mono ?_
      rintro e Z2 ⟨rfl, m7, rfl⟩
      go_wp2_with fail
      go_ret3
      exact hfin.out m7
    · have hux : up = af := by rw [← hup]; omega
      subst hux
      clear hup
      go_wp2_with fail
      refine hla.out.mono ?_
      rintro e Z2 ⟨rfl, m7, rfl⟩
      go_wp2_with fail
      go_ret3
      exact hfin.out m7
theorem after_any {S : Nat → Prop} {p k : Nat} {g : Lg} {a : Option Addr} {cap : Nat} {w : World} (h : LogAt S w p k g a cap) (hok : g.Ok k) (hk2 : k ≤ 4096) (hbd : ∀ c ∈ g.cs, c.st ≤ 9223372036854775807) (af lim : Int) (inn : ByteArray) :
    Calls Try.prog 7 #[.pointer (some ⟨p, 0, none⟩), .int .i64 af, .int .i64 lim, .string inn] w (AfterPost w (toldT g af lim inn) (uptoT g af lim inn) (errT g af)) := by
  by_cases hg : af < g.hor
  · exact after_gone h af lim inn hg
  · exact after_has h hok hk2 hbd af lim inn hg
set_option maxHeartbeats 1000000 in
theorem after_nil (af lim : Int) (inn : ByteArray) (w : World) (up : Int) (hup : (af < 0 ∧ up = 0) ∨ (0 ≤ af ∧ up = af)) :
    Calls Try.prog 7 #[.pointer none, .int .i64 af, .int .i64 lim, .string inn] w fun e w' => e = .returned (.tuple #[.slice none 0 0, .int .i64 up, .int .i64 0]) ∧ w' = w := by
  rcases hup with ⟨h1, rfl⟩ | ⟨h1, rfl⟩
  · have h2 : ¬ 0 ≤ af := by omega
    go_enter Try.func7, Try.ntmps7
    go_wp2_with fail
    go_ret3
    exact ⟨rfl, rfl⟩
  · have h2 : ¬ up < 0 := by omega
    go_enter Try.func7, Try.ntmps7
    go_wp2_with fail
    go_ret3
    exact ⟨rfl, rfl⟩
set_option maxHeartbeats 1000000 in
theorem with_nil (s : Int) (b : Option Addr) (n c : Nat) (w : World) :
    Calls Try.prog 9 #[.pointer none, .int .i64 s, .slice b n c] w fun e w' => e = .returned (.pointer none) ∧ w' = w := by
  go_enter Try.func9, Try.ntmps9
  go_wp2_with fail
  go_ret
  exact ⟨rfl, rfl⟩
theorem num_any (x : Int) (w : World) : Calls Try.prog 10 #[.int .i64 x] w fun e w' => e = .returned (.int .i64 x) ∧ w' = w := by
  go_enter Try.func10, Try.ntmps10
  go_wp2_with fail
  go_ret
  exact ⟨rfl, rfl⟩
end Go.Proofs.Ytpdcinicnekeoaa
