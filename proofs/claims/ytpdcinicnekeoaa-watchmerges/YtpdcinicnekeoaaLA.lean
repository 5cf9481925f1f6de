import Derived.Test.YtpdcinicnekeoaaRC
/-! watch: what the laws call: changes; a row that is spoilt. -/
namespace Go.Proofs.Ytpdcinicnekeoaa
open Go Go.RowKit Go.Watch
theorem neq_chg (a : Int) (s t : ByteArray) (b : Int) (w : World) : (binOp .neq 30 (.agg #[.int .i64 a, .string s, .string t, .int .i64 b]) (.agg #[.int .i64 a, .string s, .string t, .int .i64 b])).run Try.prog w = .ok (.bool false) w := by
  go_simp
set_option maxHeartbeats 2000000 in
set_option maxRecDepth 100000 in
theorem changes_true {S T : Nat → Prop} {a b : Option Addr} {l : List Chg} {ca cb : Nat} {w : World} (ha : ChgsAt S w a l) (hb : ChgsAt T w b l) (hl : l.length ≤ 1048576) :
    Calls Try.prog 16 #[.slice a l.length ca, .slice b l.length cb] w fun e w' => e = .returned (.bool true) ∧ ∃ m, w' = w.drewN m := by
  obtain ⟨n, hn⟩ : ∃ n, Hid (l.length = n) := ⟨_, rfl⟩
  rw [hn.out] at hl ⊢
  replace ha := hid_of ha
  replace hb := hid_of hb
  go_enter Try.func16, Try.ntmps16
  go_wp2_with fail
  go_loopw [5] (fun iv wr => ∃ i m : Nat, iv = .int .i64 (i : Nat) ∧ i ≤ n ∧ wr = w.drewN m) (fun iv _ => n - (intOf iv).toNat)
  case atStart => exact ⟨0, 0, rfl, Nat.zero_le _, rfl⟩
  case round =>
    obtain ⟨i, m, rfl, hin, rfl⟩ := hrel
    by_cases hi : i < n
    · obtain ⟨⟨cst, cnm, cid, ckd⟩, hce⟩ : ∃ c, l[i]? = some c := ⟨_, List.getElem?_eq_getElem (by rw [hn.out]; exact hi)⟩
      obtain ⟨b1, o1, rfl, -, h1⟩ := ha.out i _ hce
      obtain ⟨b2, o2, rfl, -, h2⟩ := hb.out i _ hce
      have x0 := h1.st
      have x1 := h1.nm
      have x2 := h1.id
      have x3 := h1.kd
      have y0 := h2.st
      have y1 := h2.nm
      have y2 := h2.id
      have y3 := h2.kd
      simp only at x0 x1 x2 x3 y0 y1 y2 y3
      have hj3 : (0 : Int) ≤ (i : Int) := by omega
      have hj4 : (i : Int) < (n : Int) := by omega
      obtain ⟨W, hW⟩ : ∃ W, Hid (w.drewN m = W) := ⟨_, rfl⟩
      have hWc : ∀ p, W.cell? p = w.cell? p := fun p => by rw [← hW.out]; rfl
      rw [← hWc] at x0 x1 x2 x3 y0 y1 y2 y3
      rw [hW.out]
      clear h1 h2 hce hWc
      go_wp2_with fail
      go_quiet (fail)
      go_wp2_with fail
      go_roundw
      case rel => exact ⟨i + 1, _, by go_num, by omega, by rw [← hW.out, World.drewN_drewN]⟩
      case measure =>
        simp only [intOf]
        omega
    · obtain rfl : i = n := by omega
      go_wp2_with fail
      go_ret
      exact ⟨rfl, m, rfl⟩
/-- Room, whatever lies in it. -/
structure Rm (w : World) (lo size : Nat) (a : Option Addr) (n cap : Nat) : Prop where
  le : n ≤ cap
  mx : cap ≤ maxLen
  pt : cap = 0 ∨ ∃ b o, a = some ⟨b, o, none⟩ ∧ lo ≤ b ∧ b < w.heap.size ∧ w.there b o (cap * size)
theorem Rw.rm {w : World} {lo size : Nat} {a : Option Addr} {n cap : Nat} {xs : List Value} (h : Rw w lo size a n cap xs) : Rm w lo size a n cap := by
  refine ⟨h.le, h.mx, ?_⟩
  rcases h.pt with h0 | ⟨b, o, h1, h2, h3, h4, -⟩
  · exact .inl h0
  · exact .inr ⟨b, o, h1, h2, h3, h4⟩
theorem there_range {w : World} {b o : Nat} : (n : Nat) → w.there b o n → ∃ zs : List Value, zs.length = n ∧ w.rangeAt b o zs
  | 0, _ => ⟨[], rfl, fun j v h => by simp at h⟩
  | n + 1, h => by
    obtain ⟨zs, h1, h2⟩ := there_range n (fun j hj => h j (by omega))
    obtain ⟨v, hv⟩ := Option.isSome_iff_exists.1 (h n (by omega)).1
    refine ⟨zs ++ [v], by simp [h1], rangeAt_app h2 (fun j u hj => ?_)⟩
    have hj0 : j = 0 := by have := (List.getElem?_eq_some_iff.1 hj).1; simp at this; omega
    subst hj0
    simp at hj
    subst hj
    rw [h1]
    exact hv
theorem Rm.rw {w : World} {lo size : Nat} {a : Option Addr} {n cap : Nat} (h : Rm w lo size a n cap) : ∃ zs, Rw w lo size a n cap zs := by
  rcases h.pt with h0 | ⟨b, o, h1, h2, h3, h4⟩
  · have : n = 0 := by have := h.le; omega
    subst this
    exact ⟨[], by simp, h.le, h.mx, .inl h0⟩
  · obtain ⟨zs, z1, z2⟩ := there_range (n * size) (fun j hj => h4 j (Nat.lt_of_lt_of_le hj (Nat.mul_le_mul_right _ h.le)))
    exact ⟨zs, z1, h.le, h.mx, .inr ⟨b, o, h1, h2, h3, h4, z2⟩⟩
/-- A row that is spoilt: blocks below B0, and from B1 on that were there, are as they were in Wc. -/
structure Spl (B0 B1 : Nat) (Wc w : World) (a : Option Addr) (n cap : Nat) : Prop where
  row : Rm w B0 4 a n cap
  blk : 0 < cap → ∀ b, blkOf a b → b < B1 ∨ Wc.heap.size ≤ b
  far : ∀ q, q < Wc.heap.size → (q < B0 ∨ B1 ≤ q) → w.heap[q]? = Wc.heap[q]?
  sz : Wc.heap.size ≤ w.heap.size
  rest : w.os = Wc.os ∧ w.tape = Wc.tape ∧ w.output = Wc.output
theorem Spl.store {B0 B1 : Nat} {Wc w : World} {a : Option Addr} {n cap : Nat} (h : Spl B0 B1 Wc w a n cap) {b o : Nat} (ha : a = some ⟨b, o, none⟩) (h0 : 0 < cap) (f : Nat) (vs : List Value) : Spl B0 B1 Wc (w.setCells b f vs) a n cap := by
  have hb := h.blk h0 b ⟨o, none, ha⟩
  have hlo : B0 ≤ b := by
    rcases h.row.pt with h1 | ⟨b', o', e, h2, -⟩
    · omega
    · rw [ha] at e; cases e; exact h2
  obtain ⟨r1, r2, r3⟩ := setCells_rest b vs f w
  refine ⟨⟨h.row.le, h.row.mx, ?_⟩, h.blk, fun q hq hh => (setCells_heap b vs f w q (fun e => by omega)).trans (h.far q hq hh), by rw [setCells_size]; exact h.sz, r1.trans h.rest.1, r2.trans h.rest.2.1, r3.trans h.rest.2.2⟩
  rcases h.row.pt with h1 | ⟨b', o', e, h2, h3, h4⟩
  · exact .inl h1
  · exact .inr ⟨b', o', e, h2, by rw [setCells_size]; exact h3, World.there_setCells h4 _ _ _⟩
theorem Spl.append {B0 B1 : Nat} {Wc w W2 W3 : World} {a : Option Addr} {n cap : Nat} {ys : List Value} {g o c : Nat} (h : Spl B0 B1 Wc w a n cap) (hb : Below w.heap.size w W2) (hA : Appd W2 B0 4 a n 1 cap ys g o c W3) : Spl B0 B1 Wc W3 (some ⟨g, o, none⟩) (n + 1) c := by
  have hs := h.sz
  have hs2 := hb.size
  refine ⟨hA.row.rm, fun _ b hbk => ?_, fun q hq hh => ?_, Nat.le_trans (Nat.le_trans hs hs2) hA.fr.size, hA.fr.os.trans (hb.os.trans h.rest.1), hA.fr.tape.trans (hb.tape.trans h.rest.2.1), hA.fr.output.trans (hb.output.trans h.rest.2.2)⟩
  · obtain ⟨o2, s2, e2⟩ := hbk
    cases e2
    rcases hA.at' with ⟨e, -, h1⟩ | ⟨e, -⟩
    · exact h.blk (by omega) g ⟨o, none, e⟩
    · exact .inr (by omega)
  · refine (hA.fr.block q (by omega) (fun e => ?_)).trans ((hb.block q (by omega)).trans (h.far q hq hh))
    have h1 := h.blk (by have := e.2; omega) q e.1
    have h2 : B0 ≤ q := by
      rcases h.row.pt with h1 | ⟨b', o', e3, h2, -⟩
      · have := e.2; omega
      · obtain ⟨o2, s2, e2⟩ := e.1
        rw [e3] at e2
        cases e2
        exact h2
    omega
theorem Spl.begin {B0 B1 : Nat} {Wc : World} {a : Option Addr} {n cap : Nat} (h : Rm Wc B0 4 a n cap) (hb : 0 < cap → ∀ b, blkOf a b → b < B1) : Spl B0 B1 Wc Wc a n cap := ⟨h, fun h0 b hbk => .inl (hb h0 b hbk), fun _ _ _ => rfl, Nat.le_refl _, rfl, rfl, rfl⟩
theorem Spl.below {B0 B1 : Nat} {Wc w : World} {a : Option Addr} {n cap : Nat} (h : Spl B0 B1 Wc w a n cap) (hB : B0 ≤ Wc.heap.size) : Below B0 Wc w := ⟨h.rest.1, h.rest.2.1, h.rest.2.2, h.sz, fun q hq => h.far q (by omega) (.inl hq)⟩
end Go.Proofs.Ytpdcinicnekeoaa
