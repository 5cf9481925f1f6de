import Derived.Test.YtnhijkmddfhcbaaGreatDoorW13
namespace Go.Proofs.YtnhijkmddfhcbaaGreatDoor
open Go Go.RowKit Go.Maps

def ParsePost (w : World) (e : Ending) (w' : World) : Res J → Prop
  | .ok j _ => ∃ (kd x : Int) (s : ByteArray) (a1 : Option Addr) (l1 c1 : Nat) (a2 : Option Addr) (l2 c2 : Nat), e = .returned (.tuple #[.agg #[.int .i64 kd, .int .i64 x, .string s, .slice a1 l1 c1, .slice a2 l2 c2], .int .i64 0, .int .i64 0]) ∧
      Rep w' w.heap.size w'.heap.size j (five kd x s (.slice a1 l1 c1) (.slice a2 l2 c2))
  | .bad er p => e = .returned (.tuple #[.agg #[.int .i64 0, .int .i64 0, .string noS, .slice none 0 0, .slice none 0 0], .int .i64 er, .int .i64 p])

def wPar (w : World) (T : ByteArray) : World := (w.alloc (.cells #[.int .i64 0, .int .i64 0, .string noS, .slice none 0 0, .slice none 0 0] 26)).alloc (.cells #[.string T, .int .i64 0] 47)
theorem wPar_size (w : World) (T : ByteArray) : (wPar w T).heap.size = w.heap.size + 2 := by simp [wPar]
theorem wPar_old (w : World) (T : ByteArray) {k : Nat} (h : k < w.heap.size) : (wPar w T).heap[k]? = w.heap[k]? := by
  unfold wPar; rw [alloc_old (by simp; omega), alloc_old h]
theorem wPar_0 (w : World) (T : ByteArray) : (wPar w T).heap[w.heap.size]? = some (.cells #[.int .i64 0, .int .i64 0, .string noS, .slice none 0 0, .slice none 0 0] 26 (0, 0)) := by
  unfold wPar; rw [alloc_old (by simp), alloc_at rfl]
theorem wPar_1 (w : World) (T : ByteArray) : At (w.heap.size + 1) T 0 (wPar w T) := by
  unfold At wPar; rw [alloc_at (by simp)]; rfl

theorem drew_heap (X : World) : X.drew.heap = X.heap := rfl
theorem drew_os (X : World) : X.drew.os = X.os := rfl
theorem drew_tape (X : World) : X.drew.tape = X.tape := rfl
theorem drew_out (X : World) : X.drew.output = X.output := rfl
theorem alloc_os (X : World) (o : Obj) : (X.alloc o).os = X.os := rfl
theorem alloc_tape (X : World) (o : Obj) : (X.alloc o).tape = X.tape := rfl
theorem alloc_out (X : World) (o : Obj) : (X.alloc o).output = X.output := rfl
theorem parse_fin {w w1 W : World} {o1 o2 : Obj} (j : J) {kd x : Int} {s : ByteArray} {nm it : Value} (hB : Below w.heap.size w w1) (hs : w.heap.size + 2 ≤ w1.heap.size)
    (hW : W = (put5 ((w1.alloc o1).alloc o2) w.heap.size 0 (.int .i64 kd) (.int .i64 x) (.string s) nm it).drew) :
    Below w.heap.size w W ∧ (Rep w1 (w.heap.size + 2) w1.heap.size j (five kd x s nm it) → Rep W w.heap.size W.heap.size j (five kd x s nm it)) := by
  have hsz : W.heap.size = w1.heap.size + 2 := by rw [hW, drew_heap, put5_size, World.size_alloc, World.size_alloc]
  have hfar : ∀ k, k ≠ w.heap.size → k < w1.heap.size → W.heap[k]? = w1.heap[k]? := fun k hk hk1 => by
    rw [hW, drew_heap, put5_far _ _ _ _ _ hk, alloc_old (by rw [World.size_alloc]; omega), alloc_old hk1]
  have h1 : W.os = w1.os := by rw [hW, drew_os, put5_os, alloc_os, alloc_os]
  have h2 : W.tape = w1.tape := by rw [hW, drew_tape, put5_tape, alloc_tape, alloc_tape]
  have h3 : W.output = w1.output := by rw [hW, drew_out, put5_out, alloc_out, alloc_out]
  clear hW
  refine ⟨⟨h1.trans hB.os, h2.trans hB.tape, h3.trans hB.output, by omega, fun k hk => (hfar k (by omega) (by omega)).trans (hB.block k hk)⟩, fun hr => ?_⟩
  exact Rep.down j _ (Rep.up j _ (Rep.keep j _ hr (fun k ka kb => hfar k (by omega) kb)) (by omega)) (by omega)

set_option maxHeartbeats 1000000 in
theorem parse_any (T : ByteArray) (tx : Nat → Res ByteArray) (hQ : QuotedOk T tx) (w : World) (hE : Env w) (h8 : 8 ≤ w.heap.size) (hT : T.size ≤ 65536) :
    Calls Tryz.prog 17 #[.string T] w fun e w' => ParsePost w e w' (wholeR T tx) ∧ Below w.heap.size w w' := by
  have hA := wPar_1 w T
  have hEp : Env (wPar w T) := hE.keep (fun k hk => wPar_old w T (by omega))
  have hlong : ¬ (65536 : Int) < (T.size : Int) := by omega
  clear hE
  go_enter Tryz.func17, Tryz.ntmps17
  go_wp2_with fail
  refine (whole_any (w.heap.size + 1) T tx hQ (wPar w T) hA hEp (by omega) hT).mono ?_
  rintro e w1 ⟨hp, hK⟩
  have hs1 : w.heap.size + 2 ≤ w1.heap.size := by have := hK.size; rw [wPar_size] at this; exact this
  have p0 := (hK.block w.heap.size (by rw [wPar_size]; omega) (by omega)).trans (wPar_0 w T)
  have pa : ∀ o1 o2, ((w1.alloc o1).alloc o2).heap[w.heap.size]? = some (.cells #[.int .i64 0, .int .i64 0, .string noS, .slice none 0 0, .slice none 0 0] 26 (0, 0)) := fun o1 o2 => by rw [alloc_old (by simp; omega), alloc_old (by omega)]; exact p0
  have r0 : ∀ o1 o2, ((w1.alloc o1).alloc o2).cell? ⟨w.heap.size, 0, none⟩ = some (.int .i64 0) := fun o1 o2 => cell_of (pa o1 o2) 0
  have r1 : ∀ o1 o2, ((w1.alloc o1).alloc o2).cell? ⟨w.heap.size, 1, none⟩ = some (.int .i64 0) := fun o1 o2 => cell_of (pa o1 o2) 1
  have r2 : ∀ o1 o2, ((w1.alloc o1).alloc o2).cell? ⟨w.heap.size, 2, none⟩ = some (.string noS) := fun o1 o2 => cell_of (pa o1 o2) 2
  have r3 : ∀ o1 o2, ((w1.alloc o1).alloc o2).cell? ⟨w.heap.size, 3, none⟩ = some (.slice none 0 0) := fun o1 o2 => cell_of (pa o1 o2) 3
  have r4 : ∀ o1 o2, ((w1.alloc o1).alloc o2).cell? ⟨w.heap.size, 4, none⟩ = some (.slice none 0 0) := fun o1 o2 => cell_of (pa o1 o2) 4
  have rf : ∀ o1 o2 o, ((w1.alloc o1).alloc o2).frozen? ⟨w.heap.size, o, none⟩ = false := fun o1 o2 o => frozen_of (pa o1 o2) o
  have hne1 : ¬ w.heap.size = w1.heap.size := by omega
  have hne2 : ¬ w.heap.size = w1.heap.size + 1 := by omega
  have hB1 : Below w.heap.size w w1 := ⟨hK.os, hK.tape, hK.output, by omega, fun k hk => (hK.block k (by rw [wPar_size]; omega) (by omega)).trans (wPar_old w T hk)⟩
  clear p0 pa hK hEp hA
  cases hr : wholeR T tx with
  | bad er p =>
    rw [hr] at hp
    have hp' : e = _ := hp
    subst hp'
    clear hp
    go_wp2_with fail
    go_region
    go_wp2_with fail
    refine bodyPost_ret (v := .tuple #[.agg #[.int .i64 0, .int .i64 0, .string noS, .slice none 0 0, .slice none 0 0], .int .i64 er, .int .i64 p]) (by simp [results, Tryz.results17, go_sem, r0, r1, r2, r3, r4]) rfl ?_
    rw [hr]
    exact ⟨rfl, (parse_fin .null hB1 hs1 (o1 := .cells #[.int .i64 0, .int .i64 0, .string noS, .slice none 0 0, .slice none 0 0] 26) (o2 := .cells #[.int .i64 er, .int .i64 p] 49) rfl).1⟩
  | ok j n =>
    rw [hr] at hp
    obtain ⟨kd, x, s, a1, l1, c1, a2, l2, c2, rfl, hrep⟩ := hp
    have HREP : Hid (Rep w1 (wPar w T).heap.size w1.heap.size j (five kd x s (.slice a1 l1 c1) (.slice a2 l2 c2))) := hrep
    clear hrep
    go_wp2_with fail
    go_region
    go_wp2_with fail
    refine bodyPost_ret (v := .tuple #[.agg #[.int .i64 kd, .int .i64 x, .string s, .slice a1 l1 c1, .slice a2 l2 c2], .int .i64 0, .int .i64 0]) (by simp [results, Tryz.results17, go_sem, r0, r1, r2, r3, r4]) rfl ?_
    rw [hr]
    have hf := parse_fin j (kd := kd) (x := x) (s := s) (nm := .slice a1 l1 c1) (it := .slice a2 l2 c2) hB1 hs1 (o1 := .cells #[.int .i64 kd, .int .i64 x, .string s, .slice a1 l1 c1, .slice a2 l2 c2] 26) (o2 := .cells #[.int .i64 0, .int .i64 0] 49) rfl
    exact ⟨⟨kd, x, s, a1, l1, c1, a2, l2, c2, rfl, hf.2 (by have h := HREP.out; rw [wPar_size] at h; exact h)⟩, hf.1⟩
end Go.Proofs.YtnhijkmddfhcbaaGreatDoor
