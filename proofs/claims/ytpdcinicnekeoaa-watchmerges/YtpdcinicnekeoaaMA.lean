import Derived.Test.YtpdcinicnekeoaaLF
import Derived.Test.YtpdcinicnekeoaaPD
/-! watch: woven, Concat of at most one list. -/
namespace Go.Proofs.Ytpdcinicnekeoaa
open Go Go.RowKit Go.Watch
/-- Lists of changes in a row. -/
def RowsAt (w : World) (a : Option Addr) (ls : List (List Chg)) : Prop := ∀ (j : Nat) l, ls[j]? = some l → ∃ b o xa xc, a = some ⟨b, o, none⟩ ∧ w.cell? ⟨b, o + j, none⟩ = some (.slice xa l.length xc) ∧ ChgsAt (fun _ => True) w xa l ∧ l.length ≤ xc ∧ xc ≤ 9223372036854775807
theorem RowsAt.below {w w' : World} {a : Option Addr} {ls : List (List Chg)} (h : RowsAt w a ls) (hb : Below w.heap.size w w') : RowsAt w' a ls := fun j l hj => by
  obtain ⟨b, o, xa, xc, h1, h2, h3, h4⟩ := h j l hj
  exact ⟨b, o, xa, xc, h1, stay hb h2, h3.below hb, h4⟩
theorem RowsAt.take {w : World} {a : Option Addr} {ls : List (List Chg)} (h : RowsAt w a ls) (k : Nat) : RowsAt w a (ls.take k) := fun j c hj => by
  have := (List.getElem?_eq_some_iff.1 hj).1
  rw [List.length_take] at this
  rw [List.getElem?_take_of_lt (by omega)] at hj
  exact h j c hj
theorem RowsAt.drop {w : World} {a : Option Addr} {ls : List (List Chg)} (h : RowsAt w a ls) (k m : Nat) (hm : m = k → ls.length ≤ k) : RowsAt w (advA a k 1 m) (ls.drop k) := fun j c hj => by
  rw [List.getElem?_drop] at hj
  obtain ⟨b, o, xa, xc, h1, h2, h3, h4⟩ := h _ c hj
  have hl := (List.getElem?_eq_some_iff.1 hj).1
  refine ⟨b, o + k, xa, xc, ?_, ?_, h3, h4⟩
  · unfold advA
    rw [if_neg (fun e => by have := hm e; omega), h1]
    simp [add_plain]
  · rw [show o + k + j = o + (k + j) from by omega]
    exact h2
/-- What a merge answers. -/
structure MPost (w : World) (l : List Chg) (e : Ending) (w' : World) : Prop where
  bel : Below w.heap.size w w'
  row : ∃ xa xc, e = .returned (.slice xa l.length xc) ∧ Rw w' w.heap.size 4 xa l.length xc (flatC l)
set_option maxHeartbeats 1000000 in
theorem less_any (x y : Chg) (w : World) : Calls Try.prog 30 #[.agg #[.int .i64 y.st, .string y.nm, .string y.id, .int .i64 y.kd], .agg #[.int .i64 x.st, .string x.nm, .string x.id, .int .i64 x.kd]] w fun e w' => e = .returned (.bool (decide (y.st < x.st))) ∧ Below w.heap.size w w' := by
  obtain ⟨xs, xn, xi, xk⟩ := x
  obtain ⟨ys, yn, yi, yk⟩ := y
  simp only
  have hB : Hid (∀ o o', Below w.heap.size w ((w.alloc o).alloc o')) := fun o o' => ((Below.refl _ w).alloc (Nat.le_refl _) o).alloc (by simp) o'
  go_enter Try.func30, Try.ntmps30
  go_wp2
  go_ret
  exact ⟨rfl, hB.out _ _⟩
section
variable {P : Program} (w : World)
theorem step_append_rw {ops : Array Oper} {o : Oper} {act : Act} {K : Act → World → Prop} {Q : Exit → Act → World → Prop} {E : Prop} (hgd : o.guard = none) (s y : Operand) (t : TypeId)
    (ho : o.op = .call { callee := .builtin .append, args := #[s, y], argTypes := #[t, t] })
    (e : TypeId) (i : TypeInfo) (z : Value) (size bytes : Nat) (ht : P.underlying t = some (.slice e)) (hi : P.info? e = some i) (hz : i.zero = some z)
    (hsize : i.size = size) (hby : i.bytes = bytes) (hzs : z.cells.size = size) (lo : Nat) (a : Option Addr) (n cap : Nat) (xs : List Value) (hv : act.eval s = .slice a n cap) (hlen : xs.length = n * size) (hle : n ≤ cap)
    (hmx : cap ≤ maxLen) (hrd : ∀ j u, xs[j]? = some u → ∃ b o, a = some ⟨b, o, none⟩ ∧ w.cell? ⟨b, o + j, none⟩ = some u) (x : Value) (hx : act.eval y = x) (m : Nat) (news : List Value) (hs : Src P size t x m news w)
    (hroom : n + m ≤ cap → Rw w lo size a n cap xs)
    (hm : 0 < m) (h63 : n + m ≤ maxLen) (hbytes : (n + m) * bytes ≤ 140737488355328) (hbase : lo ≤ w.heap.size)
    (h : ∀ g of c w', Appd w lo size a n m cap (xs ++ news) g of c w' → K (act.put o.dst (.slice (some ⟨g, of, none⟩) (n + m) c)) w') :
    if Region.wanted o (yielded ops act.tmps) = true then Oper.wp P o act w K Q else E := by
  have hw : Region.wanted o (yielded ops act.tmps) = true := by simp [Region.wanted, hgd]
  rw [if_pos hw]
  exact wp_append_rw w s y t ho e i z size bytes ht hi hz hsize hby hzs lo a n cap xs hv hlen hle hmx hrd x hx m news hs hroom hm h63 hbytes hbase h
end
/-- append(all, xs...) where there is room. -/
theorem wpList_append_room {ops : Array Oper} {rest : List Oper} {o : Oper} {act : Act} {Q : Exit → Act → World → Prop} (W : World) (hgd : o.guard = none) (s y : Operand)
    (ho : o.op = .call { callee := .builtin .append, args := #[s, y], argTypes := #[23, 23] }) (lo : Nat) (b of n cap : Nat) (l : List Chg) (hse : act.eval s = .slice (some ⟨b, of, none⟩) n cap) (hR : Rw W lo 4 (some ⟨b, of, none⟩) n cap (flatC l)) (h0 : 0 < cap)
    (S : Nat → Prop) (a : Option Addr) (ca m : Nat) (xs : List Chg) (hm : xs.length = m) (hE : ChgsAt S W a xs) (hx : act.eval y = .slice a m ca) (hroom : n + m ≤ cap)
    (h : ∀ w', Fr (fun q => q = b) W w' → Rw w' lo 4 (some ⟨b, of, none⟩) (n + m) cap (flatC (l ++ xs)) → wpList Try.prog ops Q rest (act.put o.dst (.slice (some ⟨b, of, none⟩) (n + m) cap)) w') :
    wpList Try.prog ops Q (o :: rest) act W := by
  obtain ⟨ri, hri, hri1, hri2, hri3⟩ := chg_info
  subst hm
  obtain ⟨b', of', e', h1, h2, h3, h4⟩ := hR.pt.resolve_left (by omega)
  cases e'
  have hsrc : Src Try.prog ri.size 23 (.slice a xs.length ca) xs.length (flatC xs) W := by
    rw [hri2]
    by_cases hx0 : xs = []
    · subst hx0
      cases a with
      | none => exact Src.ofNil W Try.underlying23 ca
      | some ad => exact Src.ofSlice W Try.underlying23 ad 0 ca [] (by simp) (fun j u hj => by simp at hj) (fun u hu => by cases hu)
    · have hp : 0 < xs.length := List.length_pos_iff.2 hx0
      obtain ⟨b2, o2, rfl, -, -⟩ := hE 0 _ (List.getElem?_eq_getElem hp)
      refine Src.ofSlice W Try.underlying23 ⟨b2, o2, none⟩ xs.length ca (flatC xs) (flatC_len xs) (fun j u hu => ?_) (flatC_one xs)
      obtain ⟨b3, o3, e, hc⟩ := hE.flat j u hu
      cases e
      rw [add_plain]
      exact hc
  have hth : W.there b (of + n * ri.size) (flatC xs).length := fun j hj => by
    rw [flatC_len] at hj
    rw [hri2]
    have := h3 (n * 4 + j) (by omega)
    rw [← Nat.add_assoc] at this
    exact this
  have hr := run_append_room_src W 23 23 o.type 30 ri Try.underlying23 hri b of n cap (.slice a xs.length ca) xs.length (flatC xs) hsrc hroom (fun j hj => (hth j hj).1) (fun j hj => (hth j hj).2)
  refine wpList_plain hgd fun K hK => ?_
  unfold Oper.wp execOp
  simp only [ho, resolve, invoke, builtin, Sem.run_bind, Sem.run_pure, Result.andThen_ok, List.map_toArray, List.map_cons, List.map_nil, hse, hx, hr]
  refine hK _ _ (h _ ((Fr.refl _ W).sets b _ _ (.inl rfl)) ⟨?_, hroom, hR.mx, .inr ⟨b, of, rfl, h1, by rw [setCells_size]; exact h2, World.there_setCells h3 _ _ _, ?_⟩⟩)
  · rw [flatC_app, List.length_append, hR.len, flatC_len]
    omega
  · rw [flatC_app]
    refine rangeAt_app (World.rangeAt_setCells_apart h4 _ _ _ (.inr (.inl (by rw [hR.len, hri2]; exact Nat.le_refl _)))) ?_
    rw [hR.len]
    rw [hri2] at hth ⊢
    exact World.rangeAt_setCells_same W b _ (flatC xs) hth
def sliceLen : Value → Nat
  | .slice _ n _ => n
  | _ => 0
end Go.Proofs.Ytpdcinicnekeoaa
