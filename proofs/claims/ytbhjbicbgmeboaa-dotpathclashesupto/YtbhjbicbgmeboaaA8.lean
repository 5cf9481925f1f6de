import Derived.Test.YtbhjbicbgmeboaaA7
import Derived.Deep.AppendSrc
/-! own, kept, Path. -/
namespace Go.Proofs.Ytbhjbicbgmeboaa
open Go Go.RowKit

def xyz : List ByteArray := [⟨#[120]⟩, ⟨#[121]⟩, ⟨#[122]⟩]
def xyzV : List Value := [.string ⟨#[120]⟩, .string ⟨#[121]⟩, .string ⟨#[122]⟩]
theorem xyz1 : ∀ u ∈ xyzV, u.oneCell' = true := by decide
theorem strs1 (l : List ByteArray) : ∀ u ∈ strs l, u.oneCell' = true := by
  intro u hu
  obtain ⟨s, _, rfl⟩ := List.mem_map.1 hu
  rfl
/-- A path in memory of its own, with three texts behind its end. -/
def Owned (w : World) (l : List ByteArray) (v : Value) (w' : World) : Prop :=
  ∃ g cap, v = .slice (some ⟨g, 0, none⟩) l.length cap ∧ w'.ownsRow w.heap.size 9 1 (.slice (some ⟨g, 0, none⟩) (l.length + 3) cap) (l.length + 3) (strs (l ++ xyz))
theorem owns_empty (w : World) : (w.alloc (.cells #[] 9)).ownsRow w.heap.size 9 1 (.slice (some ⟨w.heap.size, 0, none⟩) 0 0) 0 [] :=
  ⟨rfl, .inr ⟨w.heap.size, 0, #[], rfl, Nat.le_refl _, heap_alloc_new w _, Nat.le_refl _, Nat.zero_le _, rfl, rfl⟩⟩

theorem ownsRow_cap {w : World} {lo : Nat} {e : TypeId} {size : Nat} {a : Addr} {n cap : Nat} {xs : List Value} (h : w.ownsRow lo e size (.slice (some a) n cap) n xs) : n ≤ cap := by
  rcases h.2 with ⟨hv, _⟩ | ⟨g', cap', cur, hv, hg, hh, hc, _⟩
  · cases hv
  · cases hv; exact hc
theorem new2 (w : World) (o o' : Obj) : ((w.alloc o).alloc o').heap[w.heap.size + 1]? = some o' := by
  have := heap_alloc_new (w.alloc o) o'
  rw [World.size_alloc] at this
  exact this
theorem run_append_none {P : Program} (w : World) (t ty e : TypeId) (i : TypeInfo) (ht : P.underlying t = some (.slice e)) (hi : P.info? e = some i) (g n cap : Nat) (hn : n ≤ cap) (ax : Option Addr) (c : Nat) :
    (Builtin.append_ #[t, t] ty #[.slice (some ⟨g, 0, none⟩) n cap, .slice ax 0 c]).run P w = .ok (.slice (some ⟨g, 0, none⟩) n cap) w := by
  have hs : Src P i.size t (.slice ax 0 c) 0 [] w := by
    cases ax with
    | none => exact Src.ofNil w ht c
    | some a => exact Src.ofSlice w ht a 0 c [] (by simp) (fun j u h => by simp at h) (fun u h => by cases h)
  have := run_append_room_src (P := P) w t t ty e i ht hi g 0 n cap _ 0 [] hs (by omega) (fun j h => by simp at h) (fun j h => by simp at h)
  rw [this]
  rfl
theorem wpList_append_none {P : Program} {w : World} {ops : Array Oper} {rest : List Oper} {o : Oper} {a : Act} {Q : Exit → Act → World → Prop} (hgd : o.guard = none) (s x : Operand) (t : TypeId)
    (ho : o.op = .call { callee := .builtin .append, args := #[s, x], argTypes := #[t, t] }) (e : TypeId) (i : TypeInfo) (ht : P.underlying t = some (.slice e)) (hi : P.info? e = some i)
    (g n cap : Nat) (hn : n ≤ cap) (hs : a.eval s = .slice (some ⟨g, 0, none⟩) n cap) (ax : Option Addr) (c : Nat) (hx : a.eval x = .slice ax 0 c)
    (h : wpList P ops Q rest (a.put o.dst (.slice (some ⟨g, 0, none⟩) n cap)) w) : wpList P ops Q (o :: rest) a w := by
  refine wpList_plain hgd fun K hK => ?_
  have hr := run_append_none (P := P) w t o.type e i ht hi g n cap hn ax c
  unfold Oper.wp execOp
  simp only [ho, resolve, invoke, builtin, Sem.run_bind, Sem.run_pure, Result.andThen_ok, List.map_toArray, List.map_cons, List.map_nil, hs, hx, hr]
  exact hK _ _ h

set_option maxHeartbeats 2000000 in
set_option maxRecDepth 100000 in
theorem own_any (v : Value) (l : List ByteArray) (w : World) (hA : Reads w v l) (hl : l.length * 16 + 48 ≤ 140737488355328) :
    Calls Try.prog 13 #[v] w fun e w' => ∃ v', e = .returned v' ∧ Owned w l v' w' ∧ Below w.heap.size w w' := by
  obtain ⟨i9, hi9, hz90, hz91, hz92⟩ := info_parts A9
  obtain ⟨a, c, rfl, hc, hA⟩ := hA
  have hE := owns_empty w
  have hB0 : Below w.heap.size w (w.alloc (.cells #[] 9)) := (Below.refl _ w).alloc (Nat.le_refl _) _
  by_cases h0 : l = []
  · subst h0
    clear hA
    go_enter Try.func13, Try.ntmps13
    go_wp2_with (at_builtin; first
      | (refine wpList_append_none rfl _ _ 22 rfl 9 i9 Try.underlying22 hi9 w.heap.size 0 0 (Nat.le_refl _) rfl a c rfl ?_)
      | (refine wpList_append_lies _ rfl _ _ 22 rfl w.heap.size 9 i9 _ 1 16 Try.underlying22 hi9 hz90 hz91 hz92 rfl (by decide) _ 0 [] rfl (hE.alloc _) _ 3 3 xyzV rfl rfl (World.news_of_block (new2 w _ _)) xyz1 (by decide) (by unfold maxLen; omega) (by omega) (by simp only [World.size_alloc]; omega) _ rfl ?_; intro g cap w4 hown4 hgrow4 hat4 hlt4))
    go_ret
    refine ⟨_, rfl, ⟨g, cap, rfl, hown4⟩, ?_⟩
    exact (hB0.alloc (by simp) _).trans (grown_below hgrow4 (by simp; omega) (fun g hg => (ownsRow_ge hE hg).1))
  · obtain ⟨b, o, rfl, hb, hA⟩ := hA.resolve_left h0
    have hcells : Hid (∀ j u, (strs l)[j]? = some u → (w.alloc (.cells #[] 9)).cell? ((⟨b, o, none⟩ : Addr).add j) = some u) := fun j u hu => by
      unfold strs at hu
      rw [List.getElem?_map] at hu
      cases hx : l[j]? with
      | none => rw [hx] at hu; cases hu
      | some x =>
        rw [hx] at hu
        cases hu
        have hadd : (⟨b, o, none⟩ : Addr).add j = ⟨b, o + j, none⟩ := by unfold Addr.add; split <;> simp_all
        rw [hadd, hB0.cell (p := ⟨b, o + j, none⟩) hb]
        exact hA j x hx
    have hpos : 0 < l.length := List.length_pos_iff.2 h0
    clear hA h0
    go_enter Try.func13, Try.ntmps13
    go_wp2_with (at_builtin; first
      | (refine wpList_append_lies _ rfl _ _ 22 rfl w.heap.size 9 i9 _ 1 16 Try.underlying22 hi9 hz90 hz91 hz92 rfl (by decide) _ 0 [] rfl hE _ l.length c (strs l) rfl (by rw [strs_length]; omega) hcells.out (strs1 l) hpos (by unfold maxLen; omega) (by omega) (by simp only [World.size_alloc]; omega) _ rfl ?_; intro g cap w4 hown4 hgrow4 hat4 hlt4; simp only [Nat.zero_add, List.nil_append] at hown4; replace hgrow4 : (w.alloc (.cells #[] 9)).grownBy w4 (some w.heap.size) := hgrow4; clear hat4)
      | (refine wpList_append_lies _ rfl _ _ 22 rfl w.heap.size 9 i9 _ 1 16 Try.underlying22 hi9 hz90 hz91 hz92 rfl (by decide) _ l.length (strs l) rfl (hown4.alloc _) _ 3 3 xyzV rfl rfl (World.news_of_block (heap_alloc_new w4 _)) xyz1 (by decide) (by unfold maxLen; omega) (by omega) (by have := hgrow4.size; simp only [World.size_alloc] at *; omega) _ rfl ?_; intro g5 cap5 w5 hown5 hgrow5 hat5 hlt5; have hcap5 : l.length ≤ cap5 := (by have := ownsRow_cap hown5; omega)))
    go_ret
    refine ⟨_, rfl, ⟨g5, cap5, rfl, by simpa [strs, xyz, xyzV] using hown5⟩, ?_⟩
    have hb4 : Below w.heap.size w w4 := hB0.trans (grown_below hgrow4 (by simp) (fun g hg => by cases hg; exact Nat.le_refl _))
    exact (hb4.alloc hb4.size _).trans (grown_below hgrow5 (by have := hb4.size; simp; omega) (fun g hg => (ownsRow_ge hown4 hg).1))

/-- What own laid is still there. -/
theorem Owned.keep {w w' w'' : World} {l : List ByteArray} {v : Value} (h : Owned w l v w') (hb : Below w'.heap.size w' w'') : Owned w l v w'' := by
  obtain ⟨g, cap, rfl, h⟩ := h
  exact ⟨g, cap, rfl, ownsRow_below h hb⟩
theorem Owned.reads {w w' : World} {l : List ByteArray} {v : Value} (h : Owned w l v w') : Reads w' v l := by
  obtain ⟨g, cap, rfl, h1, h2⟩ := h
  rcases h2 with ⟨hv, _⟩ | ⟨g', cap', cur, hv, hg, hh, hc, hm, hs, hr⟩
  · cases hv
  · cases hv
    refine reads_row (r := xyz) hh ⟨by omega, by unfold maxLen at hm; omega⟩ ?_
    rw [show (l ++ xyz).length = (l.length + 3) * 1 by simp [xyz]]
    exact hr
theorem Owned.three {w w' : World} {l : List ByteArray} {v : Value} (h : Owned w l v w') : ∃ g cap, v = .slice (some ⟨g, 0, none⟩) l.length cap ∧ l.length + 3 ≤ cap ∧ cap ≤ maxLen ∧ w'.cell? ⟨g, l.length, none⟩ = some (.string ⟨#[120]⟩) ∧ w'.cell? ⟨g, l.length + 1, none⟩ = some (.string ⟨#[121]⟩) ∧ w'.cell? ⟨g, l.length + 2, none⟩ = some (.string ⟨#[122]⟩) := by
  obtain ⟨g, cap, rfl, h1, h2⟩ := h
  rcases h2 with ⟨hv, _⟩ | ⟨g', cap', cur, hv, hg, hh, hc, hm, hs, hr⟩
  · cases hv
  · cases hv
    have key : ∀ j u, (strs (l ++ xyz))[j]? = some u → w'.cell? ⟨g, j, none⟩ = some u := fun j u hu => by
      have hlt : j < (l.length + 3) * 1 := by
        have := (List.getElem?_eq_some_iff.1 hu).1
        simp [strs, xyz] at this; omega
      rw [← hr, List.getElem?_take_of_lt hlt, Array.getElem?_toList] at hu
      simp [World.cell?, hh, hu]
    exact ⟨g, cap, rfl, hc, hm, key _ _ (by simp [strs, xyz]), key _ _ (by simp [strs, xyz]), key _ _ (by simp [strs, xyz])⟩

set_option maxHeartbeats 2000000 in
set_option maxRecDepth 100000 in
theorem kept_any (w0 : World) (v vp : Value) (l : List ByteArray) (w : World) (hO : Owned w0 l v w) (hP : Reads w vp l) (hl : l.length * 16 + 48 ≤ 140737488355328) :
    Calls Try.prog 17 #[v, vp] w fun e w' => e = .returned (.bool true) ∧ ∃ q, w' = w.drewN q := by
  have hR := hO.reads
  obtain ⟨g, cap, rfl, hc, hm, c0, c1, c2⟩ := hO.three
  have ht := texts_any _ vp l l w hR hP (by omega) (by omega)
  obtain ⟨a, c, rfl, hca, hA⟩ := hP
  clear hA hR hO
  rw [show same l l = true by simp [same]] at ht
  go_enter Try.func17, Try.ntmps17
  go_wp2_with fail
  refine ht.mono ?_
  rintro e w1 ⟨rfl, q, rfl⟩
  clear ht
  go_wp2_with fail
  go_ret
  exact ⟨rfl, q, rfl⟩
def Sized (l : List ByteArray) : Prop := ∀ s ∈ l, s.size ≤ 9223372036854775806
end Go.Proofs.Ytbhjbicbgmeboaa
