import Derived.Test.YtpdcinicnekeoaaWA
/-! watch: New, Size, Last, Horizon; cut, lastOf. -/
namespace Go.Proofs.Ytpdcinicnekeoaa
open Go Go.RowKit Go.Watch
def newLog (keep : Int) : Obj := .cells #[.int .i64 keep, .int .i64 0, .slice none 0 0] 56
set_option maxHeartbeats 400000 in
theorem new_any (keep : Int) (w : World) (h1 : 1 ≤ keep) (h2 : keep ≤ 4096) :
    Calls Try.prog 14 #[.int .i64 keep] w fun e w' => e = .returned (.tuple #[.pointer (some ⟨w.heap.size, 0, none⟩), .int .i64 0]) ∧ w' = w.alloc (newLog keep) := by
  unfold newLog
  have h3 : ¬ keep < 1 := by omega
  have h4 : ¬ 4096 < keep := by omega
  go_enter Try.func14, Try.ntmps14
  go_wp2
  go_ret2
  exact ⟨rfl, rfl⟩
set_option maxHeartbeats 400000 in
theorem new_not (keep : Int) (w : World) (h : keep < 1 ∨ 4096 < keep) :
    Calls Try.prog 14 #[.int .i64 keep] w fun e w' => e = .returned (.tuple #[.pointer none, .int .i64 2]) ∧ w' = w := by
  by_cases h3 : keep < 1
  · clear h
    go_enter Try.func14, Try.ntmps14
    go_wp2
    go_ret2
    exact ⟨rfl, rfl⟩
  · have h4 : 4096 < keep := by omega
    clear h
    go_enter Try.func14, Try.ntmps14
    go_wp2
    go_ret2
    exact ⟨rfl, rfl⟩
theorem newLog_at (keep : Int) (w : World) : LogAt (fun b => w.heap.size ≤ b) (w.alloc (newLog keep)) w.heap.size keep ⟨0, []⟩ none 0 := by
  have h := heap_alloc_new w (newLog keep)
  have c : ∀ (i : Nat) v, #[Value.int .i64 keep, .int .i64 0, .slice none 0 0][i]? = some v → (w.alloc (newLog keep)).cell? ⟨w.heap.size, i, none⟩ = some v := fun i v hv => by
    simp only [World.cell?, h]
    unfold newLog
    simpa using hv
  exact ⟨c 0 _ rfl, c 1 _ rfl, c 2 _ rfl, Nat.le_refl _, by omega, Nat.le_refl _, PtrsAt.nil⟩
section
variable {S : Nat → Prop} {p : Nat} {k : Int} {g : Lg} {a : Option Addr} {cap : Nat} {w : World}
set_option maxHeartbeats 400000 in
theorem size_any (h : LogAt S w p k g a cap) : Calls Try.prog 13 #[.pointer (some ⟨p, 0, none⟩)] w fun e w' => e = .returned (.int .i64 g.cs.length) ∧ w' = w := by
  have c2 := h.sl
  have hm := h.mx
  have hl := h.le
  clear h
  go_enter Try.func13, Try.ntmps13
  go_wp2
  go_ret
  exact ⟨rfl, rfl⟩
set_option maxHeartbeats 400000 in
theorem hor_any (h : LogAt S w p k g a cap) : Calls Try.prog 11 #[.pointer (some ⟨p, 0, none⟩)] w fun e w' => e = .returned (.int .i64 g.hor) ∧ w' = w := by
  have c2 := h.hr
  clear h
  go_enter Try.func11, Try.ntmps11
  go_wp2
  go_ret
  exact ⟨rfl, rfl⟩
set_option maxHeartbeats 400000 in
theorem size_nil : Calls Try.prog 13 #[.pointer none] w fun e w' => e = .returned (.int .i64 0) ∧ w' = w := by
  go_enter Try.func13, Try.ntmps13
  go_wp2
  go_ret
  exact ⟨rfl, rfl⟩
set_option maxHeartbeats 400000 in
theorem hor_nil : Calls Try.prog 11 #[.pointer none] w fun e w' => e = .returned (.int .i64 0) ∧ w' = w := by
  go_enter Try.func11, Try.ntmps11
  go_wp2
  go_ret
  exact ⟨rfl, rfl⟩
set_option maxHeartbeats 400000 in
theorem last_nil : Calls Try.prog 12 #[.pointer none] w fun e w' => e = .returned (.int .i64 0) ∧ ∃ n, w' = w.drewN n := by
  go_enter Try.func12, Try.ntmps12
  go_wp2_with (go_at_call 13; refine size_nil.mono ?_; rintro e w' ⟨rfl, rfl⟩)
  go_ret
  exact ⟨rfl, 0, rfl⟩
set_option maxHeartbeats 1000000 in
theorem last_any (h : LogAt S w p k g a cap) : Calls Try.prog 12 #[.pointer (some ⟨p, 0, none⟩)] w fun e w' => e = .returned (.int .i64 (lastSt g.cs)) ∧ ∃ n, w' = w.drewN n := by
  have hs := hid_of (fun m => size_any (h.drewN m))
  have hs0 := hid_of (size_any h)
  have c2 := h.sl
  have hm := h.mx
  have hl := h.le
  by_cases h0 : g.cs.length = 0
  · have e0 : g.cs = [] := List.length_eq_zero_iff.1 h0
    rw [h0] at hs0
    rw [e0]
    clear h c2 h0 e0 hl
    go_enter Try.func12, Try.ntmps12
    go_wp2_with fail
    refine hs0.out.mono ?_
    rintro e w' ⟨rfl, rfl⟩
    go_wp2
    go_ret
    exact ⟨rfl, 0, rfl⟩
  · obtain ⟨n, hn⟩ : ∃ n, g.cs.length = n + 1 := ⟨g.cs.length - 1, by omega⟩
    have he := List.getElem?_eq_getElem (l := g.cs) (i := n) (by omega)
    obtain ⟨b, o, q, rfl, -, -, h4, h5⟩ := h.row n _ he
    have hst := lastSt_get _ _ _ he (by omega)
    have y1 := h5.st
    rw [← hst] at y1
    generalize lastSt g.cs = x at y1
    rw [hn] at hs hs0 c2 hl
    clear h h0 he h5 hst hn
    have hb : ((n : Int) + 1 == 0) = false := by simp; omega
    go_enter Try.func12, Try.ntmps12
    go_wp2_with fail
    refine hs0.out.mono ?_
    rintro e w' ⟨rfl, rfl⟩
    go_wp2
    go_quiet ((go_at_call 13; exact Calls.quiet_of_same (hs.out _)))
    go_wp2
    go_ret
    exact ⟨rfl, _, rfl⟩
end
end Go.Proofs.Ytpdcinicnekeoaa
