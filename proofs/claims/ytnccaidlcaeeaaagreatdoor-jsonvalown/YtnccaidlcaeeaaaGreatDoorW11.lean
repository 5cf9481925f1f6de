import Derived.Test.YtnccaidlcaeeaaaGreatDoorW10
namespace Go.Proofs.YtnccaidlcaeeaaaGreatDoor
open Go Go.RowKit Go.Maps

theorem Rep.down {w : World} {lo lo2 hi : Nat} (j : J) (cs : List Value) (h : Rep w lo hi j cs) (hl : lo2 ≤ lo) : Rep w lo2 hi j cs := by
  cases j with
  | list l =>
    unfold Rep at *
    obtain ⟨it, xs, h1, h2, h3, h4⟩ := h
    exact ⟨it, xs, h1, ownsRow_lower h2 hl, h3, RepL.down _ _ h4 hl⟩
  | obj ns l =>
    unfold Rep at *
    obtain ⟨nm, it, xs, h1, h2, h3, h4, h5, h6, h7⟩ := h
    exact ⟨nm, it, xs, h1, ownsRow_lower h2 hl, h3, ownsRow_lower h4 hl, h5, h6, RepL.down _ _ h7 hl⟩
  | _ => exact h
theorem val_done {b n n' : Nat} {T : ByteArray} {w w2 W : World} {j : J} {kd x : Int} {s : ByteArray} {a1 : Option Addr} {l1 c1 : Nat} {a2 : Option Addr} {l2 c2 : Nat}
    (hW : W = put5 w2 w.heap.size 0 (.int .i64 kd) (.int .i64 x) (.string s) (.slice a1 l1 c1) (.slice a2 l2 c2))
    (hb : b < w.heap.size) (hK : Kp b w w2) (hrep : Rep w2 (w.heap.size + 1) w2.heap.size j (five kd x s (.slice a1 l1 c1) (.slice a2 l2 c2))) (hA : At b T n' w2) (h1 : n < n') (h2 : n' ≤ T.size) :
    VPost b T n w (.returned (.agg #[.int .i64 kd, .int .i64 x, .string s, .slice a1 l1 c1, .slice a2 l2 c2])) W (.ok j n') := by
  have hsz : W.heap.size = w2.heap.size := by rw [hW, put5_size]
  have hfar : ∀ k, k ≠ w.heap.size → W.heap[k]? = w2.heap[k]? := fun k hk => by rw [hW, put5_far _ _ _ _ _ hk]
  have hKW : Kp b w W := by rw [hW]; exact put5_kp hK (by omega) _ _ _ _ _ _
  refine ⟨kd, x, s, a1, l1, c1, a2, l2, c2, rfl, ?_, ?_, hKW, h1, h2⟩
  · rw [hsz]
    exact Rep.down j _ (Rep.keep j _ hrep (fun k ka kb => hfar k (by omega))) (by omega)
  · exact (hfar b (by omega)).trans hA
def zcells : Obj := .cells #[.int .i64 0, .int .i64 0, .string noS, nilS, nilS] 25
theorem beq_ne (c : UInt8) (k : UInt8) (h : c ≠ k) : ((c.toNat : Int) == (k.toNat : Int)) = false := by rw [u8_beq]; simpa using h

theorem lit_lt {T : ByteArray} {bs : List UInt8} {n n' : Nat} {u : Unit} (h : litR T bs n = .ok u n') (hb : bs ≠ []) : n < n' := by
  have key : ∀ (bs : List UInt8) (n : Nat), litR T bs n = .ok u n' → n + bs.length = n' := by
    intro bs
    induction bs with
    | nil => intro n h; simp only [litR, Res.ok.injEq] at h; simpa using h.2
    | cons c cs ih =>
      intro n h
      rw [litR_cons] at h
      split at h
      · split at h
        · have := ih (n + 1) h; simp only [List.length_cons]; omega
        · cases h
      · cases h
  have := key bs n h
  cases bs with
  | nil => exact absurd rfl hb
  | cons c cs => simp only [List.length_cons] at this; omega

set_option maxHeartbeats 1000000 in
theorem value_short (b n : Nat) (d : Int) (T : ByteArray) (tx : Nat → Res ByteArray) (li ob : Res J) (w : World) (hA : At b T n w) (hE : Env w) (_hb8 : 8 ≤ b) (_hT : T.size ≤ 65536) (hn : n = T.size) :
    Calls Tryz.prog 42 #[.pointer (some ⟨b, 0, none⟩), .int .i64 d] w fun e w' => VPost b T n w e w' (headR T tx n li ob) := by
  have hbl := hA.lt
  have hAa : At b T n (w.alloc zcells) := hA.alloc _
  have hEa : Env (w.alloc zcells) := hE.alloc _
  have hKa : Kp b w (w.alloc zcells) := (Kp.refl _ _).alloc _
  have h0 := hAa.c0
  have h1 := hAa.c1
  have hz : (w.alloc zcells).heap[w.heap.size]? = some (.cells #[.int .i64 0, .int .i64 0, .string noS, nilS, nilS] 25 (0, 0)) := heap_alloc_new w _
  have HZ : Hid ((w.alloc zcells).heap[w.heap.size]? = some (.cells #[.int .i64 0, .int .i64 0, .string noS, nilS, nilS] 25 (0, 0))) := hz
  clear hz
  have HR : Hid (headR T tx n li ob = .bad 3 T.size) := by unfold Hid headR; rw [if_neg (by omega)]
  subst hn
  go_enter Tryz.func42, Tryz.ntmps42
  go_wp2_with fail
  refine (here_short b T (w.alloc zcells) h0 h1).mono ?_
  rintro e w1 ⟨rfl, rfl⟩
  go_wp2_with fail
  refine ⟨rfl, ?_⟩
  rw [HR.out]
  exact ⟨rfl, hKa.drew⟩

set_option maxHeartbeats 1000000 in
theorem value_null (b n : Nat) (d : Int) (T : ByteArray) (tx : Nat → Res ByteArray) (li ob : Res J) (w : World) (hA : At b T n w) (hE : Env w) (_hb8 : 8 ≤ b) (_hT : T.size ≤ 65536) (hn : n < T.size) (hc : byteAt T n = 110) :
    Calls Tryz.prog 42 #[.pointer (some ⟨b, 0, none⟩), .int .i64 d] w fun e w' => VPost b T n w e w' (headR T tx n li ob) := by
  have hbl := hA.lt
  have hAa : At b T n (w.alloc zcells) := hA.alloc _
  have hEa : Env (w.alloc zcells) := hE.alloc _
  have hKa : Kp b w (w.alloc zcells) := (Kp.refl _ _).alloc _
  have h0 := hAa.c0
  have h1 := hAa.c1
  have hz : (w.alloc zcells).heap[w.heap.size]? = some (.cells #[.int .i64 0, .int .i64 0, .string noS, nilS, nilS] 25 (0, 0)) := heap_alloc_new w _
  have HZ : Hid ((w.alloc zcells).heap[w.heap.size]? = some (.cells #[.int .i64 0, .int .i64 0, .string noS, nilS, nilS] 25 (0, 0))) := hz
  clear hz
  have HD : Hid (headR T tx n li ob = (litR T [110, 117, 108, 108] n).map fun _ => .null) := by unfold Hid headR; rw [if_pos hn, if_pos hc]
  have e110 : (((byteAt T n).toNat : Int) == 110) = true := by rw [hc]; rfl
  have e116 : (((byteAt T n).toNat : Int) == 116) = false := by rw [hc]; rfl
  have e102 : (((byteAt T n).toNat : Int) == 102) = false := by rw [hc]; rfl
  have e45 : (((byteAt T n).toNat : Int) == 45) = false := by rw [hc]; rfl
  have e34 : (((byteAt T n).toNat : Int) == 34) = false := by rw [hc]; rfl
  have e91 : (((byteAt T n).toNat : Int) == 91) = false := by rw [hc]; rfl
  have e123 : (((byteAt T n).toNat : Int) == 123) = false := by rw [hc]; rfl
  have eD : digit (byteAt T n) = false := by rw [hc]; rfl
  clear hc
  go_enter Tryz.func42, Tryz.ntmps42
  go_wp2_with fail
  refine (here_ok b n T (w.alloc zcells) h0 h1 hn).mono ?_
  rintro e w1 ⟨rfl, rfl⟩
  go_wp2_with fail
  refine (literal_any b n T { data := #[110, 117, 108, 108] } 0 (w.alloc zcells).drew.drew hAa (by omega) _hT (by decide)).mono ?_
  intro e w2 hp
  have hp' : LitPost b T n 0 (w.alloc zcells).drew.drew e w2 (litR T [110, 117, 108, 108] n) := hp
  cases hl : litR T [110, 117, 108, 108] n with
  | bad er p =>
    rw [hl] at hp'
    obtain ⟨rfl, hK2⟩ := hp'
    have HR : Hid (headR T tx n li ob = .bad er p) := by unfold Hid; rw [HD.out, hl]; rfl
    clear hl HD hp
    go_wp2_with fail
    refine ⟨rfl, ?_⟩
    rw [HR.out]
    exact ⟨rfl, (hKa.drew.drew).trans hK2⟩
  | ok _ n' =>
    rw [hl] at hp'
    obtain ⟨rfl, hA2, hK2, hl1, hl2⟩ := hp'
    have HR : Hid (headR T tx n li ob = .ok .null n') := by unfold Hid; rw [HD.out, hl]; rfl
    have hln : n < n' := lit_lt hl (by decide)
    have hK2' : Kp b w w2 := (hKa.drew.drew).trans hK2
    have hres : w2.heap[w.heap.size]? = some (.cells #[.int .i64 0, .int .i64 0, .string noS, nilS, nilS] 25 (0, 0)) := (hK2.block w.heap.size (by simp) (by omega)).trans HZ.out
    have r0 : w2.cell? ⟨w.heap.size, 0, none⟩ = some (.int .i64 0) := cell_of hres 0
    have r1 : w2.cell? ⟨w.heap.size, 1, none⟩ = some (.int .i64 0) := cell_of hres 1
    have r2 : w2.cell? ⟨w.heap.size, 2, none⟩ = some (.string noS) := cell_of hres 2
    have r3 : w2.cell? ⟨w.heap.size, 3, none⟩ = some (.slice none 0 0) := cell_of hres 3
    have r4 : w2.cell? ⟨w.heap.size, 4, none⟩ = some (.slice none 0 0) := cell_of hres 4
    have rf := fun o => frozen_of hres o
    clear hres
    clear hl HD hp
    unfold vv nilS
    go_wp2_with fail
    refine bodyPost_ret (v := .agg #[.int .i64 0, .int .i64 0, .string noS, .slice none 0 0, .slice none 0 0]) (by simp [results, Tryz.results42, go_sem, r0, r1, r2, r3, r4]) rfl ?_
    rw [HR.out]
    exact val_done (w2 := w2) (W := put5 w2 w.heap.size 0 (.int .i64 0) (.int .i64 0) (.string noS) (.slice none 0 0) (.slice none 0 0)) rfl hbl hK2' rfl hA2 (by omega) (hl2)

set_option maxHeartbeats 1000000 in
theorem value_true (b n : Nat) (d : Int) (T : ByteArray) (tx : Nat → Res ByteArray) (li ob : Res J) (w : World) (hA : At b T n w) (hE : Env w) (_hb8 : 8 ≤ b) (_hT : T.size ≤ 65536) (hn : n < T.size) (hc : byteAt T n = 116) :
    Calls Tryz.prog 42 #[.pointer (some ⟨b, 0, none⟩), .int .i64 d] w fun e w' => VPost b T n w e w' (headR T tx n li ob) := by
  have hbl := hA.lt
  have hAa : At b T n (w.alloc zcells) := hA.alloc _
  have hEa : Env (w.alloc zcells) := hE.alloc _
  have hKa : Kp b w (w.alloc zcells) := (Kp.refl _ _).alloc _
  have h0 := hAa.c0
  have h1 := hAa.c1
  have hz : (w.alloc zcells).heap[w.heap.size]? = some (.cells #[.int .i64 0, .int .i64 0, .string noS, nilS, nilS] 25 (0, 0)) := heap_alloc_new w _
  have HZ : Hid ((w.alloc zcells).heap[w.heap.size]? = some (.cells #[.int .i64 0, .int .i64 0, .string noS, nilS, nilS] 25 (0, 0))) := hz
  clear hz
  have HD : Hid (headR T tx n li ob = (litR T [116, 114, 117, 101] n).map fun _ => .tru) := by unfold Hid headR; rw [if_pos hn, if_neg (by rw [hc]; decide), if_pos hc]
  have e110 : (((byteAt T n).toNat : Int) == 110) = false := by rw [hc]; rfl
  have e116 : (((byteAt T n).toNat : Int) == 116) = true := by rw [hc]; rfl
  have e102 : (((byteAt T n).toNat : Int) == 102) = false := by rw [hc]; rfl
  have e45 : (((byteAt T n).toNat : Int) == 45) = false := by rw [hc]; rfl
  have e34 : (((byteAt T n).toNat : Int) == 34) = false := by rw [hc]; rfl
  have e91 : (((byteAt T n).toNat : Int) == 91) = false := by rw [hc]; rfl
  have e123 : (((byteAt T n).toNat : Int) == 123) = false := by rw [hc]; rfl
  have eD : digit (byteAt T n) = false := by rw [hc]; rfl
  clear hc
  go_enter Tryz.func42, Tryz.ntmps42
  go_wp2_with fail
  refine (here_ok b n T (w.alloc zcells) h0 h1 hn).mono ?_
  rintro e w1 ⟨rfl, rfl⟩
  go_wp2_with fail
  refine (literal_any b n T { data := #[116, 114, 117, 101] } 2 (w.alloc zcells).drew.drew hAa (by omega) _hT (by decide)).mono ?_
  intro e w2 hp
  have hp' : LitPost b T n 2 (w.alloc zcells).drew.drew e w2 (litR T [116, 114, 117, 101] n) := hp
  cases hl : litR T [116, 114, 117, 101] n with
  | bad er p =>
    rw [hl] at hp'
    obtain ⟨rfl, hK2⟩ := hp'
    have HR : Hid (headR T tx n li ob = .bad er p) := by unfold Hid; rw [HD.out, hl]; rfl
    clear hl HD hp
    go_wp2_with fail
    refine ⟨rfl, ?_⟩
    rw [HR.out]
    exact ⟨rfl, (hKa.drew.drew).trans hK2⟩
  | ok _ n' =>
    rw [hl] at hp'
    obtain ⟨rfl, hA2, hK2, hl1, hl2⟩ := hp'
    have HR : Hid (headR T tx n li ob = .ok .tru n') := by unfold Hid; rw [HD.out, hl]; rfl
    have hln : n < n' := lit_lt hl (by decide)
    have hK2' : Kp b w w2 := (hKa.drew.drew).trans hK2
    have hres : w2.heap[w.heap.size]? = some (.cells #[.int .i64 0, .int .i64 0, .string noS, nilS, nilS] 25 (0, 0)) := (hK2.block w.heap.size (by simp) (by omega)).trans HZ.out
    have r0 : w2.cell? ⟨w.heap.size, 0, none⟩ = some (.int .i64 0) := cell_of hres 0
    have r1 : w2.cell? ⟨w.heap.size, 1, none⟩ = some (.int .i64 0) := cell_of hres 1
    have r2 : w2.cell? ⟨w.heap.size, 2, none⟩ = some (.string noS) := cell_of hres 2
    have r3 : w2.cell? ⟨w.heap.size, 3, none⟩ = some (.slice none 0 0) := cell_of hres 3
    have r4 : w2.cell? ⟨w.heap.size, 4, none⟩ = some (.slice none 0 0) := cell_of hres 4
    have rf := fun o => frozen_of hres o
    clear hres
    clear hl HD hp
    unfold vv nilS
    go_wp2_with fail
    refine bodyPost_ret (v := .agg #[.int .i64 2, .int .i64 0, .string noS, .slice none 0 0, .slice none 0 0]) (by simp [results, Tryz.results42, go_sem, r0, r1, r2, r3, r4]) rfl ?_
    rw [HR.out]
    exact val_done (w2 := w2) (W := put5 w2 w.heap.size 0 (.int .i64 2) (.int .i64 0) (.string noS) (.slice none 0 0) (.slice none 0 0)) rfl hbl hK2' rfl hA2 (by omega) (hl2)

set_option maxHeartbeats 1000000 in
theorem value_false (b n : Nat) (d : Int) (T : ByteArray) (tx : Nat → Res ByteArray) (li ob : Res J) (w : World) (hA : At b T n w) (hE : Env w) (_hb8 : 8 ≤ b) (_hT : T.size ≤ 65536) (hn : n < T.size) (hc : byteAt T n = 102) :
    Calls Tryz.prog 42 #[.pointer (some ⟨b, 0, none⟩), .int .i64 d] w fun e w' => VPost b T n w e w' (headR T tx n li ob) := by
  have hbl := hA.lt
  have hAa : At b T n (w.alloc zcells) := hA.alloc _
  have hEa : Env (w.alloc zcells) := hE.alloc _
  have hKa : Kp b w (w.alloc zcells) := (Kp.refl _ _).alloc _
  have h0 := hAa.c0
  have h1 := hAa.c1
  have hz : (w.alloc zcells).heap[w.heap.size]? = some (.cells #[.int .i64 0, .int .i64 0, .string noS, nilS, nilS] 25 (0, 0)) := heap_alloc_new w _
  have HZ : Hid ((w.alloc zcells).heap[w.heap.size]? = some (.cells #[.int .i64 0, .int .i64 0, .string noS, nilS, nilS] 25 (0, 0))) := hz
  clear hz
  have HD : Hid (headR T tx n li ob = (litR T [102, 97, 108, 115, 101] n).map fun _ => .fls) := by unfold Hid headR; rw [if_pos hn, if_neg (by rw [hc]; decide), if_neg (by rw [hc]; decide), if_pos hc]
  have e110 : (((byteAt T n).toNat : Int) == 110) = false := by rw [hc]; rfl
  have e116 : (((byteAt T n).toNat : Int) == 116) = false := by rw [hc]; rfl
  have e102 : (((byteAt T n).toNat : Int) == 102) = true := by rw [hc]; rfl
  have e45 : (((byteAt T n).toNat : Int) == 45) = false := by rw [hc]; rfl
  have e34 : (((byteAt T n).toNat : Int) == 34) = false := by rw [hc]; rfl
  have e91 : (((byteAt T n).toNat : Int) == 91) = false := by rw [hc]; rfl
  have e123 : (((byteAt T n).toNat : Int) == 123) = false := by rw [hc]; rfl
  have eD : digit (byteAt T n) = false := by rw [hc]; rfl
  clear hc
  go_enter Tryz.func42, Tryz.ntmps42
  go_wp2_with fail
  refine (here_ok b n T (w.alloc zcells) h0 h1 hn).mono ?_
  rintro e w1 ⟨rfl, rfl⟩
  go_wp2_with fail
  refine (literal_any b n T { data := #[102, 97, 108, 115, 101] } 1 (w.alloc zcells).drew.drew hAa (by omega) _hT (by decide)).mono ?_
  intro e w2 hp
  have hp' : LitPost b T n 1 (w.alloc zcells).drew.drew e w2 (litR T [102, 97, 108, 115, 101] n) := hp
  cases hl : litR T [102, 97, 108, 115, 101] n with
  | bad er p =>
    rw [hl] at hp'
    obtain ⟨rfl, hK2⟩ := hp'
    have HR : Hid (headR T tx n li ob = .bad er p) := by unfold Hid; rw [HD.out, hl]; rfl
    clear hl HD hp
    go_wp2_with fail
    refine ⟨rfl, ?_⟩
    rw [HR.out]
    exact ⟨rfl, (hKa.drew.drew).trans hK2⟩
  | ok _ n' =>
    rw [hl] at hp'
    obtain ⟨rfl, hA2, hK2, hl1, hl2⟩ := hp'
    have HR : Hid (headR T tx n li ob = .ok .fls n') := by unfold Hid; rw [HD.out, hl]; rfl
    have hln : n < n' := lit_lt hl (by decide)
    have hK2' : Kp b w w2 := (hKa.drew.drew).trans hK2
    have hres : w2.heap[w.heap.size]? = some (.cells #[.int .i64 0, .int .i64 0, .string noS, nilS, nilS] 25 (0, 0)) := (hK2.block w.heap.size (by simp) (by omega)).trans HZ.out
    have r0 : w2.cell? ⟨w.heap.size, 0, none⟩ = some (.int .i64 0) := cell_of hres 0
    have r1 : w2.cell? ⟨w.heap.size, 1, none⟩ = some (.int .i64 0) := cell_of hres 1
    have r2 : w2.cell? ⟨w.heap.size, 2, none⟩ = some (.string noS) := cell_of hres 2
    have r3 : w2.cell? ⟨w.heap.size, 3, none⟩ = some (.slice none 0 0) := cell_of hres 3
    have r4 : w2.cell? ⟨w.heap.size, 4, none⟩ = some (.slice none 0 0) := cell_of hres 4
    have rf := fun o => frozen_of hres o
    clear hres
    clear hl HD hp
    unfold vv nilS
    go_wp2_with fail
    refine bodyPost_ret (v := .agg #[.int .i64 1, .int .i64 0, .string noS, .slice none 0 0, .slice none 0 0]) (by simp [results, Tryz.results42, go_sem, r0, r1, r2, r3, r4]) rfl ?_
    rw [HR.out]
    exact val_done (w2 := w2) (W := put5 w2 w.heap.size 0 (.int .i64 1) (.int .i64 0) (.string noS) (.slice none 0 0) (.slice none 0 0)) rfl hbl hK2' rfl hA2 (by omega) (hl2)

set_option maxHeartbeats 1000000 in
theorem value_minus (b n : Nat) (d : Int) (T : ByteArray) (tx : Nat → Res ByteArray) (li ob : Res J) (w : World) (hA : At b T n w) (hE : Env w) (_hb8 : 8 ≤ b) (_hT : T.size ≤ 65536) (hn : n < T.size) (hc : byteAt T n = 45) :
    Calls Tryz.prog 42 #[.pointer (some ⟨b, 0, none⟩), .int .i64 d] w fun e w' => VPost b T n w e w' (headR T tx n li ob) := by
  have hbl := hA.lt
  have hAa : At b T n (w.alloc zcells) := hA.alloc _
  have hEa : Env (w.alloc zcells) := hE.alloc _
  have hKa : Kp b w (w.alloc zcells) := (Kp.refl _ _).alloc _
  have h0 := hAa.c0
  have h1 := hAa.c1
  have hz : (w.alloc zcells).heap[w.heap.size]? = some (.cells #[.int .i64 0, .int .i64 0, .string noS, nilS, nilS] 25 (0, 0)) := heap_alloc_new w _
  have HZ : Hid ((w.alloc zcells).heap[w.heap.size]? = some (.cells #[.int .i64 0, .int .i64 0, .string noS, nilS, nilS] 25 (0, 0))) := hz
  clear hz
  have HD : Hid (headR T tx n li ob = (numR T n).map .int) := by unfold Hid headR; rw [if_pos hn, if_neg (by rw [hc]; decide), if_neg (by rw [hc]; decide), if_neg (by rw [hc]; decide), if_pos (Or.inl hc)]
  have e110 : (((byteAt T n).toNat : Int) == 110) = false := by rw [hc]; rfl
  have e116 : (((byteAt T n).toNat : Int) == 116) = false := by rw [hc]; rfl
  have e102 : (((byteAt T n).toNat : Int) == 102) = false := by rw [hc]; rfl
  have e45 : (((byteAt T n).toNat : Int) == 45) = true := by rw [hc]; rfl
  have e34 : (((byteAt T n).toNat : Int) == 34) = false := by rw [hc]; rfl
  have e91 : (((byteAt T n).toNat : Int) == 91) = false := by rw [hc]; rfl
  have e123 : (((byteAt T n).toNat : Int) == 123) = false := by rw [hc]; rfl
  have eD : digit (byteAt T n) = false := by rw [hc]; rfl
  clear hc
  go_enter Tryz.func42, Tryz.ntmps42
  go_wp2_with fail
  refine (here_ok b n T (w.alloc zcells) h0 h1 hn).mono ?_
  rintro e w1 ⟨rfl, rfl⟩
  go_wp2_with fail
  refine (number_any b n T (w.alloc zcells).drew.drew hAa hEa.drew.drew _hb8 hn _hT).mono ?_
  intro e w2 hp
  cases hl : numR T n with
  | bad er p =>
    rw [hl] at hp
    obtain ⟨rfl, hK2⟩ := hp
    have HR : Hid (headR T tx n li ob = .bad er p) := by unfold Hid; rw [HD.out, hl]; rfl
    clear hl HD
    go_wp2_with fail
    refine ⟨rfl, ?_⟩
    rw [HR.out]
    exact ⟨rfl, (hKa.drew.drew).trans hK2⟩
  | ok v n' =>
    rw [hl] at hp
    obtain ⟨rfl, hA2, hK2, hl1, hl2⟩ := hp
    have HR : Hid (headR T tx n li ob = .ok (.int v) n') := by unfold Hid; rw [HD.out, hl]; rfl
    clear hl HD
    go_wp2_with fail
    refine (of_any v w2).mono ?_
    rintro e w3 ⟨rfl, hb3⟩
    have hK2' : Kp b w w3 := ((hKa.drew.drew).trans hK2).trans (Kp.below hb3)
    have hA3 : At b T n' w3 := hA2.kept hb3
    have hres : w3.heap[w.heap.size]? = some (.cells #[.int .i64 0, .int .i64 0, .string noS, nilS, nilS] 25 (0, 0)) := (hb3.block w.heap.size (by have := hK2.size; simp at this; omega)).trans ((hK2.block w.heap.size (by simp) (by omega)).trans HZ.out)
    have r0 : w3.cell? ⟨w.heap.size, 0, none⟩ = some (.int .i64 0) := cell_of hres 0
    have r1 : w3.cell? ⟨w.heap.size, 1, none⟩ = some (.int .i64 0) := cell_of hres 1
    have r2 : w3.cell? ⟨w.heap.size, 2, none⟩ = some (.string noS) := cell_of hres 2
    have r3 : w3.cell? ⟨w.heap.size, 3, none⟩ = some (.slice none 0 0) := cell_of hres 3
    have r4 : w3.cell? ⟨w.heap.size, 4, none⟩ = some (.slice none 0 0) := cell_of hres 4
    have rf := fun o => frozen_of hres o
    clear hres
    unfold vv nilS
    go_wp2_with fail
    refine bodyPost_ret (v := .agg #[.int .i64 3, .int .i64 v, .string noS, .slice none 0 0, .slice none 0 0]) (by simp [results, Tryz.results42, go_sem, r0, r1, r2, r3, r4]) rfl ?_
    rw [HR.out]
    exact val_done (w2 := w3) (W := put5 w3 w.heap.size 0 (.int .i64 3) (.int .i64 v) (.string noS) (.slice none 0 0) (.slice none 0 0)) rfl hbl hK2' rfl hA3 (by omega) (hl2)

set_option maxHeartbeats 1000000 in
theorem value_digit (b n : Nat) (d : Int) (T : ByteArray) (tx : Nat → Res ByteArray) (li ob : Res J) (w : World) (hA : At b T n w) (hE : Env w) (_hb8 : 8 ≤ b) (_hT : T.size ≤ 65536) (hn : n < T.size) (hc : digit (byteAt T n) = true) :
    Calls Tryz.prog 42 #[.pointer (some ⟨b, 0, none⟩), .int .i64 d] w fun e w' => VPost b T n w e w' (headR T tx n li ob) := by
  have hbl := hA.lt
  have hAa : At b T n (w.alloc zcells) := hA.alloc _
  have hEa : Env (w.alloc zcells) := hE.alloc _
  have hKa : Kp b w (w.alloc zcells) := (Kp.refl _ _).alloc _
  have h0 := hAa.c0
  have h1 := hAa.c1
  have hz : (w.alloc zcells).heap[w.heap.size]? = some (.cells #[.int .i64 0, .int .i64 0, .string noS, nilS, nilS] 25 (0, 0)) := heap_alloc_new w _
  have HZ : Hid ((w.alloc zcells).heap[w.heap.size]? = some (.cells #[.int .i64 0, .int .i64 0, .string noS, nilS, nilS] 25 (0, 0))) := hz
  clear hz
  have hk : ∀ k : UInt8, digit k = false → byteAt T n ≠ k := fun k hk e => by rw [e, hk] at hc; cases hc
  have HD : Hid (headR T tx n li ob = (numR T n).map .int) := by unfold Hid headR; rw [if_pos hn, if_neg (hk 110 rfl), if_neg (hk 116 rfl), if_neg (hk 102 rfl), if_pos (Or.inr hc)]
  have e110 : (((byteAt T n).toNat : Int) == 110) = false := beq_ne _ 110 (hk 110 rfl)
  have e116 : (((byteAt T n).toNat : Int) == 116) = false := beq_ne _ 116 (hk 116 rfl)
  have e102 : (((byteAt T n).toNat : Int) == 102) = false := beq_ne _ 102 (hk 102 rfl)
  have e45 : (((byteAt T n).toNat : Int) == 45) = false := beq_ne _ 45 (hk 45 rfl)
  clear hk
  go_enter Tryz.func42, Tryz.ntmps42
  go_wp2_with fail
  refine (here_ok b n T (w.alloc zcells) h0 h1 hn).mono ?_
  rintro e w1 ⟨rfl, rfl⟩
  go_wp2_with (go_at_call 62; refine (isDigit_any _ _).mono ?_; rintro e w' ⟨rfl, rfl⟩)
  refine (number_any b n T (w.alloc zcells).drew.drew hAa hEa.drew.drew _hb8 hn _hT).mono ?_
  intro e w2 hp
  cases hl : numR T n with
  | bad er p =>
    rw [hl] at hp
    obtain ⟨rfl, hK2⟩ := hp
    have HR : Hid (headR T tx n li ob = .bad er p) := by unfold Hid; rw [HD.out, hl]; rfl
    clear hl HD
    go_wp2_with fail
    refine ⟨rfl, ?_⟩
    rw [HR.out]
    exact ⟨rfl, (hKa.drew.drew).trans hK2⟩
  | ok v n' =>
    rw [hl] at hp
    obtain ⟨rfl, hA2, hK2, hl1, hl2⟩ := hp
    have HR : Hid (headR T tx n li ob = .ok (.int v) n') := by unfold Hid; rw [HD.out, hl]; rfl
    clear hl HD
    go_wp2_with fail
    refine (of_any v w2).mono ?_
    rintro e w3 ⟨rfl, hb3⟩
    have hK2' : Kp b w w3 := ((hKa.drew.drew).trans hK2).trans (Kp.below hb3)
    have hA3 : At b T n' w3 := hA2.kept hb3
    have hres : w3.heap[w.heap.size]? = some (.cells #[.int .i64 0, .int .i64 0, .string noS, nilS, nilS] 25 (0, 0)) := (hb3.block w.heap.size (by have := hK2.size; simp at this; omega)).trans ((hK2.block w.heap.size (by simp) (by omega)).trans HZ.out)
    have r0 : w3.cell? ⟨w.heap.size, 0, none⟩ = some (.int .i64 0) := cell_of hres 0
    have r1 : w3.cell? ⟨w.heap.size, 1, none⟩ = some (.int .i64 0) := cell_of hres 1
    have r2 : w3.cell? ⟨w.heap.size, 2, none⟩ = some (.string noS) := cell_of hres 2
    have r3 : w3.cell? ⟨w.heap.size, 3, none⟩ = some (.slice none 0 0) := cell_of hres 3
    have r4 : w3.cell? ⟨w.heap.size, 4, none⟩ = some (.slice none 0 0) := cell_of hres 4
    have rf := fun o => frozen_of hres o
    clear hres
    unfold vv nilS
    go_wp2_with fail
    refine bodyPost_ret (v := .agg #[.int .i64 3, .int .i64 v, .string noS, .slice none 0 0, .slice none 0 0]) (by simp [results, Tryz.results42, go_sem, r0, r1, r2, r3, r4]) rfl ?_
    rw [HR.out]
    exact val_done (w2 := w3) (W := put5 w3 w.heap.size 0 (.int .i64 3) (.int .i64 v) (.string noS) (.slice none 0 0) (.slice none 0 0)) rfl hbl hK2' rfl hA3 (by omega) (hl2)

set_option maxHeartbeats 1000000 in
theorem value_text (b n : Nat) (d : Int) (T : ByteArray) (tx : Nat → Res ByteArray) (li ob : Res J) (w : World) (hA : At b T n w) (hE : Env w) (_hb8 : 8 ≤ b) (_hT : T.size ≤ 65536) (hQ : QuotedOk T tx) (hn : n < T.size) (hc : byteAt T n = 34) :
    Calls Tryz.prog 42 #[.pointer (some ⟨b, 0, none⟩), .int .i64 d] w fun e w' => VPost b T n w e w' (headR T tx n li ob) := by
  have hbl := hA.lt
  have hAa : At b T n (w.alloc zcells) := hA.alloc _
  have hEa : Env (w.alloc zcells) := hE.alloc _
  have hKa : Kp b w (w.alloc zcells) := (Kp.refl _ _).alloc _
  have h0 := hAa.c0
  have h1 := hAa.c1
  have hz : (w.alloc zcells).heap[w.heap.size]? = some (.cells #[.int .i64 0, .int .i64 0, .string noS, nilS, nilS] 25 (0, 0)) := heap_alloc_new w _
  have HZ : Hid ((w.alloc zcells).heap[w.heap.size]? = some (.cells #[.int .i64 0, .int .i64 0, .string noS, nilS, nilS] 25 (0, 0))) := hz
  clear hz
  have HD : Hid (headR T tx n li ob = (tx n).map .text) := by unfold Hid headR; rw [if_pos hn, if_neg (by rw [hc]; decide), if_neg (by rw [hc]; decide), if_neg (by rw [hc]; decide), if_neg (by rw [hc]; decide), if_pos hc]
  have e110 : (((byteAt T n).toNat : Int) == 110) = false := by rw [hc]; rfl
  have e116 : (((byteAt T n).toNat : Int) == 116) = false := by rw [hc]; rfl
  have e102 : (((byteAt T n).toNat : Int) == 102) = false := by rw [hc]; rfl
  have e45 : (((byteAt T n).toNat : Int) == 45) = false := by rw [hc]; rfl
  have e34 : (((byteAt T n).toNat : Int) == 34) = true := by rw [hc]; rfl
  have e91 : (((byteAt T n).toNat : Int) == 91) = false := by rw [hc]; rfl
  have e123 : (((byteAt T n).toNat : Int) == 123) = false := by rw [hc]; rfl
  have eD : digit (byteAt T n) = false := by rw [hc]; rfl
  have HC : Hid (byteAt T n = 34) := hc
  clear hc
  go_enter Tryz.func42, Tryz.ntmps42
  go_wp2_with fail
  refine (here_ok b n T (w.alloc zcells) h0 h1 hn).mono ?_
  rintro e w1 ⟨rfl, rfl⟩
  go_wp2_with (go_at_call 62; refine (isDigit_any _ _).mono ?_; rintro e w' ⟨rfl, rfl⟩)
  refine (hQ b n (w.alloc zcells).drew.drew hAa hEa.drew.drew _hb8 hn HC.out).mono ?_
  intro e w2 hp
  cases hl : tx n with
  | bad er p =>
    rw [hl] at hp
    obtain ⟨rfl, hK2⟩ := hp
    have HR : Hid (headR T tx n li ob = .bad er p) := by unfold Hid; rw [HD.out, hl]; rfl
    clear hl HD
    go_wp2_with fail
    refine ⟨rfl, ?_⟩
    rw [HR.out]
    exact ⟨rfl, (hKa.drew.drew).trans hK2⟩
  | ok s n' =>
    rw [hl] at hp
    obtain ⟨rfl, hss, hA2, hK2, hl1, hl2⟩ := hp
    have HR : Hid (headR T tx n li ob = .ok (.text s) n') := by unfold Hid; rw [HD.out, hl]; rfl
    clear hl HD
    go_wp2_with fail
    refine (word_any s w2).mono ?_
    rintro e w3 ⟨rfl, hb3⟩
    have hK2' : Kp b w w3 := ((hKa.drew.drew).trans hK2).trans (Kp.below hb3)
    have hA3 : At b T n' w3 := hA2.kept hb3
    have hres : w3.heap[w.heap.size]? = some (.cells #[.int .i64 0, .int .i64 0, .string noS, nilS, nilS] 25 (0, 0)) := (hb3.block w.heap.size (by have := hK2.size; simp at this; omega)).trans ((hK2.block w.heap.size (by simp) (by omega)).trans HZ.out)
    have r0 : w3.cell? ⟨w.heap.size, 0, none⟩ = some (.int .i64 0) := cell_of hres 0
    have r1 : w3.cell? ⟨w.heap.size, 1, none⟩ = some (.int .i64 0) := cell_of hres 1
    have r2 : w3.cell? ⟨w.heap.size, 2, none⟩ = some (.string noS) := cell_of hres 2
    have r3 : w3.cell? ⟨w.heap.size, 3, none⟩ = some (.slice none 0 0) := cell_of hres 3
    have r4 : w3.cell? ⟨w.heap.size, 4, none⟩ = some (.slice none 0 0) := cell_of hres 4
    have rf := fun o => frozen_of hres o
    clear hres
    unfold vv nilS
    go_wp2_with fail
    refine bodyPost_ret (v := .agg #[.int .i64 4, .int .i64 0, .string s, .slice none 0 0, .slice none 0 0]) (by simp [results, Tryz.results42, go_sem, r0, r1, r2, r3, r4]) rfl ?_
    rw [HR.out]
    exact val_done (w2 := w3) (W := put5 w3 w.heap.size 0 (.int .i64 4) (.int .i64 0) (.string s) (.slice none 0 0) (.slice none 0 0)) rfl hbl hK2' rfl hA3 (by omega) (hl2)

set_option maxHeartbeats 1000000 in
theorem value_list (b n : Nat) (d : Int) (T : ByteArray) (tx : Nat → Res ByteArray) (li ob : Res J) (w : World) (hA : At b T n w) (hE : Env w) (_hb8 : 8 ≤ b) (_hT : T.size ≤ 65536) (hL : ∀ w', At b T n w' → Env w' → Calls Tryz.prog 67 #[.pointer (some ⟨b, 0, none⟩), .int .i64 d] w' fun e w'' => VPost b T n w' e w'' li) (hd : d ≠ 64) (hn : n < T.size) (hc : byteAt T n = 91) :
    Calls Tryz.prog 42 #[.pointer (some ⟨b, 0, none⟩), .int .i64 d] w fun e w' => VPost b T n w e w' (headR T tx n li ob) := by
  have hbl := hA.lt
  have hAa : At b T n (w.alloc zcells) := hA.alloc _
  have hEa : Env (w.alloc zcells) := hE.alloc _
  have hKa : Kp b w (w.alloc zcells) := (Kp.refl _ _).alloc _
  have h0 := hAa.c0
  have h1 := hAa.c1
  have hz : (w.alloc zcells).heap[w.heap.size]? = some (.cells #[.int .i64 0, .int .i64 0, .string noS, nilS, nilS] 25 (0, 0)) := heap_alloc_new w _
  have HZ : Hid ((w.alloc zcells).heap[w.heap.size]? = some (.cells #[.int .i64 0, .int .i64 0, .string noS, nilS, nilS] 25 (0, 0))) := hz
  clear hz
  have HD : Hid (headR T tx n li ob = li) := by unfold Hid headR; rw [if_pos hn, if_neg (by rw [hc]; decide), if_neg (by rw [hc]; decide), if_neg (by rw [hc]; decide), if_neg (by rw [hc]; decide), if_neg (by rw [hc]; decide), if_pos hc]
  have e110 : (((byteAt T n).toNat : Int) == 110) = false := by rw [hc]; rfl
  have e116 : (((byteAt T n).toNat : Int) == 116) = false := by rw [hc]; rfl
  have e102 : (((byteAt T n).toNat : Int) == 102) = false := by rw [hc]; rfl
  have e45 : (((byteAt T n).toNat : Int) == 45) = false := by rw [hc]; rfl
  have e34 : (((byteAt T n).toNat : Int) == 34) = false := by rw [hc]; rfl
  have e91 : (((byteAt T n).toNat : Int) == 91) = true := by rw [hc]; rfl
  have e123 : (((byteAt T n).toNat : Int) == 123) = false := by rw [hc]; rfl
  have eD : digit (byteAt T n) = false := by rw [hc]; rfl
  have e64 : (d == 64) = false := by simpa using hd
  clear hc hd
  go_enter Tryz.func42, Tryz.ntmps42
  go_wp2_with fail
  refine (here_ok b n T (w.alloc zcells) h0 h1 hn).mono ?_
  rintro e w1 ⟨rfl, rfl⟩
  go_wp2_with (go_at_call 62; refine (isDigit_any _ _).mono ?_; rintro e w' ⟨rfl, rfl⟩)
  refine (hL (w.alloc zcells).drew.drew hAa hEa.drew.drew).mono ?_
  intro e w2 hp
  cases hl : li with
  | bad er p =>
    rw [hl] at hp
    obtain ⟨rfl, hK2⟩ := hp
    have HR : Hid (headR T tx n li ob = .bad er p) := by unfold Hid; rw [HD.out, hl]
    clear hl HD hL
    go_wp2_with fail
    refine ⟨rfl, ?_⟩
    rw [HR.out]
    exact ⟨rfl, (hKa.drew.drew).trans hK2⟩
  | ok j n' =>
    rw [hl] at hp
    obtain ⟨kd, x, s, a1, l1, c1, a2, l2, c2, rfl, hrep, hA2, hK2, hl1, hl2⟩ := hp
    have HR : Hid (headR T tx n li ob = .ok j n') := by unfold Hid; rw [HD.out, hl]
    have hrep' : Rep w2 (w.heap.size + 1) w2.heap.size j (five kd x s (.slice a1 l1 c1) (.slice a2 l2 c2)) := by simpa using hrep
    have hK2' : Kp b w w2 := (hKa.drew.drew).trans hK2
    have hres : w2.heap[w.heap.size]? = some (.cells #[.int .i64 0, .int .i64 0, .string noS, nilS, nilS] 25 (0, 0)) := (hK2.block w.heap.size (by simp) (by omega)).trans HZ.out
    have r0 : w2.cell? ⟨w.heap.size, 0, none⟩ = some (.int .i64 0) := cell_of hres 0
    have r1 : w2.cell? ⟨w.heap.size, 1, none⟩ = some (.int .i64 0) := cell_of hres 1
    have r2 : w2.cell? ⟨w.heap.size, 2, none⟩ = some (.string noS) := cell_of hres 2
    have r3 : w2.cell? ⟨w.heap.size, 3, none⟩ = some (.slice none 0 0) := cell_of hres 3
    have r4 : w2.cell? ⟨w.heap.size, 4, none⟩ = some (.slice none 0 0) := cell_of hres 4
    have rf := fun o => frozen_of hres o
    clear hres
    clear hl HD hL
    go_wp2_with fail
    refine bodyPost_ret (v := .agg #[.int .i64 kd, .int .i64 x, .string s, .slice a1 l1 c1, .slice a2 l2 c2]) (by simp [results, Tryz.results42, go_sem, r0, r1, r2, r3, r4]) rfl ?_
    rw [HR.out]
    exact val_done (w2 := w2) (W := put5 w2 w.heap.size 0 (.int .i64 kd) (.int .i64 x) (.string s) (.slice a1 l1 c1) (.slice a2 l2 c2)) rfl hbl hK2' hrep' hA2 (hl1) (hl2)

set_option maxHeartbeats 1000000 in
theorem value_deep_list (b n : Nat) (d : Int) (T : ByteArray) (tx : Nat → Res ByteArray) (w : World) (hA : At b T n w) (hE : Env w) (_hb8 : 8 ≤ b) (_hT : T.size ≤ 65536) (hd : d = 64) (hn : n < T.size) (hc : byteAt T n = 91) :
    Calls Tryz.prog 42 #[.pointer (some ⟨b, 0, none⟩), .int .i64 d] w fun e w' => VPost b T n w e w' (headR T tx n (.bad 17 n) (.bad 17 n)) := by
  have hbl := hA.lt
  have hAa : At b T n (w.alloc zcells) := hA.alloc _
  have hEa : Env (w.alloc zcells) := hE.alloc _
  have hKa : Kp b w (w.alloc zcells) := (Kp.refl _ _).alloc _
  have h0 := hAa.c0
  have h1 := hAa.c1
  have hz : (w.alloc zcells).heap[w.heap.size]? = some (.cells #[.int .i64 0, .int .i64 0, .string noS, nilS, nilS] 25 (0, 0)) := heap_alloc_new w _
  have HZ : Hid ((w.alloc zcells).heap[w.heap.size]? = some (.cells #[.int .i64 0, .int .i64 0, .string noS, nilS, nilS] 25 (0, 0))) := hz
  clear hz
  have HR : Hid (headR T tx n (.bad 17 n) (.bad 17 n) = .bad 17 n) := by unfold Hid headR; rw [if_pos hn, if_neg (by rw [hc]; decide), if_neg (by rw [hc]; decide), if_neg (by rw [hc]; decide), if_neg (by rw [hc]; decide), if_neg (by rw [hc]; decide), if_pos hc]
  have e110 : (((byteAt T n).toNat : Int) == 110) = false := by rw [hc]; rfl
  have e116 : (((byteAt T n).toNat : Int) == 116) = false := by rw [hc]; rfl
  have e102 : (((byteAt T n).toNat : Int) == 102) = false := by rw [hc]; rfl
  have e45 : (((byteAt T n).toNat : Int) == 45) = false := by rw [hc]; rfl
  have e34 : (((byteAt T n).toNat : Int) == 34) = false := by rw [hc]; rfl
  have e91 : (((byteAt T n).toNat : Int) == 91) = true := by rw [hc]; rfl
  have e123 : (((byteAt T n).toNat : Int) == 123) = false := by rw [hc]; rfl
  have eD : digit (byteAt T n) = false := by rw [hc]; rfl
  subst hd
  clear hc
  go_enter Tryz.func42, Tryz.ntmps42
  go_wp2_with fail
  refine (here_ok b n T (w.alloc zcells) h0 h1 hn).mono ?_
  rintro e w1 ⟨rfl, rfl⟩
  go_wp2_with (go_at_call 62; refine (isDigit_any _ _).mono ?_; rintro e w' ⟨rfl, rfl⟩)
  refine ⟨rfl, ?_⟩
  rw [HR.out]
  exact ⟨rfl, hKa.drew.drew⟩

set_option maxHeartbeats 1000000 in
theorem value_obj (b n : Nat) (d : Int) (T : ByteArray) (tx : Nat → Res ByteArray) (li ob : Res J) (w : World) (hA : At b T n w) (hE : Env w) (_hb8 : 8 ≤ b) (_hT : T.size ≤ 65536) (hL : ∀ w', At b T n w' → Env w' → Calls Tryz.prog 68 #[.pointer (some ⟨b, 0, none⟩), .int .i64 d] w' fun e w'' => VPost b T n w' e w'' ob) (hd : d ≠ 64) (hn : n < T.size) (hc : byteAt T n = 123) :
    Calls Tryz.prog 42 #[.pointer (some ⟨b, 0, none⟩), .int .i64 d] w fun e w' => VPost b T n w e w' (headR T tx n li ob) := by
  have hbl := hA.lt
  have hAa : At b T n (w.alloc zcells) := hA.alloc _
  have hEa : Env (w.alloc zcells) := hE.alloc _
  have hKa : Kp b w (w.alloc zcells) := (Kp.refl _ _).alloc _
  have h0 := hAa.c0
  have h1 := hAa.c1
  have hz : (w.alloc zcells).heap[w.heap.size]? = some (.cells #[.int .i64 0, .int .i64 0, .string noS, nilS, nilS] 25 (0, 0)) := heap_alloc_new w _
  have HZ : Hid ((w.alloc zcells).heap[w.heap.size]? = some (.cells #[.int .i64 0, .int .i64 0, .string noS, nilS, nilS] 25 (0, 0))) := hz
  clear hz
  have HD : Hid (headR T tx n li ob = ob) := by unfold Hid headR; rw [if_pos hn, if_neg (by rw [hc]; decide), if_neg (by rw [hc]; decide), if_neg (by rw [hc]; decide), if_neg (by rw [hc]; decide), if_neg (by rw [hc]; decide), if_neg (by rw [hc]; decide), if_pos hc]
  have e110 : (((byteAt T n).toNat : Int) == 110) = false := by rw [hc]; rfl
  have e116 : (((byteAt T n).toNat : Int) == 116) = false := by rw [hc]; rfl
  have e102 : (((byteAt T n).toNat : Int) == 102) = false := by rw [hc]; rfl
  have e45 : (((byteAt T n).toNat : Int) == 45) = false := by rw [hc]; rfl
  have e34 : (((byteAt T n).toNat : Int) == 34) = false := by rw [hc]; rfl
  have e91 : (((byteAt T n).toNat : Int) == 91) = false := by rw [hc]; rfl
  have e123 : (((byteAt T n).toNat : Int) == 123) = true := by rw [hc]; rfl
  have eD : digit (byteAt T n) = false := by rw [hc]; rfl
  have e64 : (d == 64) = false := by simpa using hd
  clear hc hd
  go_enter Tryz.func42, Tryz.ntmps42
  go_wp2_with fail
  refine (here_ok b n T (w.alloc zcells) h0 h1 hn).mono ?_
  rintro e w1 ⟨rfl, rfl⟩
  go_wp2_with (go_at_call 62; refine (isDigit_any _ _).mono ?_; rintro e w' ⟨rfl, rfl⟩)
  refine (hL (w.alloc zcells).drew.drew hAa hEa.drew.drew).mono ?_
  intro e w2 hp
  cases hl : ob with
  | bad er p =>
    rw [hl] at hp
    obtain ⟨rfl, hK2⟩ := hp
    have HR : Hid (headR T tx n li ob = .bad er p) := by unfold Hid; rw [HD.out, hl]
    clear hl HD hL
    go_wp2_with fail
    refine ⟨rfl, ?_⟩
    rw [HR.out]
    exact ⟨rfl, (hKa.drew.drew).trans hK2⟩
  | ok j n' =>
    rw [hl] at hp
    obtain ⟨kd, x, s, a1, l1, c1, a2, l2, c2, rfl, hrep, hA2, hK2, hl1, hl2⟩ := hp
    have HR : Hid (headR T tx n li ob = .ok j n') := by unfold Hid; rw [HD.out, hl]
    have hrep' : Rep w2 (w.heap.size + 1) w2.heap.size j (five kd x s (.slice a1 l1 c1) (.slice a2 l2 c2)) := by simpa using hrep
    have hK2' : Kp b w w2 := (hKa.drew.drew).trans hK2
    have hres : w2.heap[w.heap.size]? = some (.cells #[.int .i64 0, .int .i64 0, .string noS, nilS, nilS] 25 (0, 0)) := (hK2.block w.heap.size (by simp) (by omega)).trans HZ.out
    have r0 : w2.cell? ⟨w.heap.size, 0, none⟩ = some (.int .i64 0) := cell_of hres 0
    have r1 : w2.cell? ⟨w.heap.size, 1, none⟩ = some (.int .i64 0) := cell_of hres 1
    have r2 : w2.cell? ⟨w.heap.size, 2, none⟩ = some (.string noS) := cell_of hres 2
    have r3 : w2.cell? ⟨w.heap.size, 3, none⟩ = some (.slice none 0 0) := cell_of hres 3
    have r4 : w2.cell? ⟨w.heap.size, 4, none⟩ = some (.slice none 0 0) := cell_of hres 4
    have rf := fun o => frozen_of hres o
    clear hres
    clear hl HD hL
    go_wp2_with fail
    refine bodyPost_ret (v := .agg #[.int .i64 kd, .int .i64 x, .string s, .slice a1 l1 c1, .slice a2 l2 c2]) (by simp [results, Tryz.results42, go_sem, r0, r1, r2, r3, r4]) rfl ?_
    rw [HR.out]
    exact val_done (w2 := w2) (W := put5 w2 w.heap.size 0 (.int .i64 kd) (.int .i64 x) (.string s) (.slice a1 l1 c1) (.slice a2 l2 c2)) rfl hbl hK2' hrep' hA2 (hl1) (hl2)

set_option maxHeartbeats 1000000 in
theorem value_deep_obj (b n : Nat) (d : Int) (T : ByteArray) (tx : Nat → Res ByteArray) (w : World) (hA : At b T n w) (hE : Env w) (_hb8 : 8 ≤ b) (_hT : T.size ≤ 65536) (hd : d = 64) (hn : n < T.size) (hc : byteAt T n = 123) :
    Calls Tryz.prog 42 #[.pointer (some ⟨b, 0, none⟩), .int .i64 d] w fun e w' => VPost b T n w e w' (headR T tx n (.bad 17 n) (.bad 17 n)) := by
  have hbl := hA.lt
  have hAa : At b T n (w.alloc zcells) := hA.alloc _
  have hEa : Env (w.alloc zcells) := hE.alloc _
  have hKa : Kp b w (w.alloc zcells) := (Kp.refl _ _).alloc _
  have h0 := hAa.c0
  have h1 := hAa.c1
  have hz : (w.alloc zcells).heap[w.heap.size]? = some (.cells #[.int .i64 0, .int .i64 0, .string noS, nilS, nilS] 25 (0, 0)) := heap_alloc_new w _
  have HZ : Hid ((w.alloc zcells).heap[w.heap.size]? = some (.cells #[.int .i64 0, .int .i64 0, .string noS, nilS, nilS] 25 (0, 0))) := hz
  clear hz
  have HR : Hid (headR T tx n (.bad 17 n) (.bad 17 n) = .bad 17 n) := by unfold Hid headR; rw [if_pos hn, if_neg (by rw [hc]; decide), if_neg (by rw [hc]; decide), if_neg (by rw [hc]; decide), if_neg (by rw [hc]; decide), if_neg (by rw [hc]; decide), if_neg (by rw [hc]; decide), if_pos hc]
  have e110 : (((byteAt T n).toNat : Int) == 110) = false := by rw [hc]; rfl
  have e116 : (((byteAt T n).toNat : Int) == 116) = false := by rw [hc]; rfl
  have e102 : (((byteAt T n).toNat : Int) == 102) = false := by rw [hc]; rfl
  have e45 : (((byteAt T n).toNat : Int) == 45) = false := by rw [hc]; rfl
  have e34 : (((byteAt T n).toNat : Int) == 34) = false := by rw [hc]; rfl
  have e91 : (((byteAt T n).toNat : Int) == 91) = false := by rw [hc]; rfl
  have e123 : (((byteAt T n).toNat : Int) == 123) = true := by rw [hc]; rfl
  have eD : digit (byteAt T n) = false := by rw [hc]; rfl
  subst hd
  clear hc
  go_enter Tryz.func42, Tryz.ntmps42
  go_wp2_with fail
  refine (here_ok b n T (w.alloc zcells) h0 h1 hn).mono ?_
  rintro e w1 ⟨rfl, rfl⟩
  go_wp2_with (go_at_call 62; refine (isDigit_any _ _).mono ?_; rintro e w' ⟨rfl, rfl⟩)
  refine ⟨rfl, ?_⟩
  rw [HR.out]
  exact ⟨rfl, hKa.drew.drew⟩

set_option maxHeartbeats 1000000 in
theorem value_token (b n : Nat) (d : Int) (T : ByteArray) (tx : Nat → Res ByteArray) (li ob : Res J) (w : World) (hA : At b T n w) (hE : Env w) (_hb8 : 8 ≤ b) (_hT : T.size ≤ 65536) (hn : n < T.size) (h : ∀ k ∈ [(110 : UInt8), 116, 102, 45, 34, 91, 123], byteAt T n ≠ k) (hd : digit (byteAt T n) = false) :
    Calls Tryz.prog 42 #[.pointer (some ⟨b, 0, none⟩), .int .i64 d] w fun e w' => VPost b T n w e w' (headR T tx n li ob) := by
  have hbl := hA.lt
  have hAa : At b T n (w.alloc zcells) := hA.alloc _
  have hEa : Env (w.alloc zcells) := hE.alloc _
  have hKa : Kp b w (w.alloc zcells) := (Kp.refl _ _).alloc _
  have h0 := hAa.c0
  have h1 := hAa.c1
  have hz : (w.alloc zcells).heap[w.heap.size]? = some (.cells #[.int .i64 0, .int .i64 0, .string noS, nilS, nilS] 25 (0, 0)) := heap_alloc_new w _
  have HZ : Hid ((w.alloc zcells).heap[w.heap.size]? = some (.cells #[.int .i64 0, .int .i64 0, .string noS, nilS, nilS] 25 (0, 0))) := hz
  clear hz
  have HR : Hid (headR T tx n li ob = .bad 10 n) := by unfold Hid headR; rw [if_pos hn, if_neg (h 110 (by simp)), if_neg (h 116 (by simp)), if_neg (h 102 (by simp)), if_neg (fun h' => h'.elim (h 45 (by simp)) (fun h'' => by rw [hd] at h''; cases h'')), if_neg (h 34 (by simp)), if_neg (h 91 (by simp)), if_neg (h 123 (by simp))]
  have e110 : (((byteAt T n).toNat : Int) == 110) = false := beq_ne _ 110 (h 110 (by simp))
  have e116 : (((byteAt T n).toNat : Int) == 116) = false := beq_ne _ 116 (h 116 (by simp))
  have e102 : (((byteAt T n).toNat : Int) == 102) = false := beq_ne _ 102 (h 102 (by simp))
  have e45 : (((byteAt T n).toNat : Int) == 45) = false := beq_ne _ 45 (h 45 (by simp))
  have e34 : (((byteAt T n).toNat : Int) == 34) = false := beq_ne _ 34 (h 34 (by simp))
  have e91 : (((byteAt T n).toNat : Int) == 91) = false := beq_ne _ 91 (h 91 (by simp))
  have e123 : (((byteAt T n).toNat : Int) == 123) = false := beq_ne _ 123 (h 123 (by simp))
  clear h
  go_enter Tryz.func42, Tryz.ntmps42
  go_wp2_with fail
  refine (here_ok b n T (w.alloc zcells) h0 h1 hn).mono ?_
  rintro e w1 ⟨rfl, rfl⟩
  go_wp2_with (go_at_call 62; refine (isDigit_any _ _).mono ?_; rintro e w' ⟨rfl, rfl⟩)
  refine ⟨rfl, ?_⟩
  rw [HR.out]
  exact ⟨rfl, hKa.drew.drew⟩

theorem value_head (b n : Nat) (d : Int) (T : ByteArray) (tx : Nat → Res ByteArray) (li ob : Res J) (hQ : QuotedOk T tx) (hT : T.size ≤ 65536) (w : World) (hA : At b T n w) (hE : Env w) (hb8 : 8 ≤ b) (hn : n ≤ T.size)
    (hz : d = 64 → li = .bad 17 n ∧ ob = .bad 17 n)
    (hL : d ≠ 64 → n < T.size → ∀ w', At b T n w' → Env w' → Calls Tryz.prog 67 #[.pointer (some ⟨b, 0, none⟩), .int .i64 d] w' fun e w'' => VPost b T n w' e w'' li)
    (hO : d ≠ 64 → n < T.size → ∀ w', At b T n w' → Env w' → Calls Tryz.prog 68 #[.pointer (some ⟨b, 0, none⟩), .int .i64 d] w' fun e w'' => VPost b T n w' e w'' ob) :
    Calls Tryz.prog 42 #[.pointer (some ⟨b, 0, none⟩), .int .i64 d] w fun e w' => VPost b T n w e w' (headR T tx n li ob) := by
  by_cases hlt : n < T.size
  · by_cases c1 : byteAt T n = 110
    · exact value_null b n d T tx li ob w hA hE hb8 hT hlt c1
    by_cases c2 : byteAt T n = 116
    · exact value_true b n d T tx li ob w hA hE hb8 hT hlt c2
    by_cases c3 : byteAt T n = 102
    · exact value_false b n d T tx li ob w hA hE hb8 hT hlt c3
    by_cases c4 : byteAt T n = 45
    · exact value_minus b n d T tx li ob w hA hE hb8 hT hlt c4
    cases c5 : digit (byteAt T n) with
    | true => exact value_digit b n d T tx li ob w hA hE hb8 hT hlt c5
    | false =>
      by_cases c6 : byteAt T n = 34
      · exact value_text b n d T tx li ob w hA hE hb8 hT hQ hlt c6
      by_cases hd : d = 64
      · obtain ⟨rfl, rfl⟩ := hz hd
        by_cases c7 : byteAt T n = 91
        · exact value_deep_list b n d T tx w hA hE hb8 hT hd hlt c7
        by_cases c8 : byteAt T n = 123
        · exact value_deep_obj b n d T tx w hA hE hb8 hT hd hlt c8
        exact value_token b n d T tx _ _ w hA hE hb8 hT hlt (by simp [c1, c2, c3, c4, c6, c7, c8]) c5
      · by_cases c7 : byteAt T n = 91
        · exact value_list b n d T tx li ob w hA hE hb8 hT (hL hd hlt) hd hlt c7
        by_cases c8 : byteAt T n = 123
        · exact value_obj b n d T tx li ob w hA hE hb8 hT (hO hd hlt) hd hlt c8
        exact value_token b n d T tx li ob w hA hE hb8 hT hlt (by simp [c1, c2, c3, c4, c6, c7, c8]) c5
  · exact value_short b n d T tx li ob w hA hE hb8 hT (by omega)

/-- The reader of values does as valR says, at every depth. -/
theorem value_any (T : ByteArray) (tx : Nat → Res ByteArray) (hQ : QuotedOk T tx) (hT : T.size ≤ 65536) : ∀ k, k ≤ 64 → ValOk T tx k := by
  intro k
  induction k with
  | zero =>
    intro _ b n d w hA hE hb8 hn hd
    have hd' : d = 64 := by omega
    unfold valR
    exact value_head b n d T tx _ _ hQ hT w hA hE hb8 hn (fun _ => ⟨rfl, rfl⟩) (fun h => absurd hd' h) (fun h => absurd hd' h)
  | succ k ih =>
    intro hk b n d w hA hE hb8 hn hd
    have hV := ih (by omega)
    unfold valR
    exact value_head b n d T tx _ _ hQ hT w hA hE hb8 hn (fun h => by omega)
      (fun _ hlt w' hA' hE' => list_any b n k d T tx hV (by omega) (by omega) w' hA' hE' hb8 hlt hT)
      (fun _ hlt w' hA' hE' => object_any b n k d T tx hQ hV (by omega) (by omega) w' hA' hE' hb8 hlt hT)
end Go.Proofs.YtnccaidlcaeeaaaGreatDoor
