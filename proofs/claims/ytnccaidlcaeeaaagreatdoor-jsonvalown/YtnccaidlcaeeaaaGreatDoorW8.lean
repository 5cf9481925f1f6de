import Derived.Test.YtnccaidlcaeeaaaGreatDoorW7
namespace Go.Proofs.YtnccaidlcaeeaaaGreatDoor
open Go Go.RowKit Go.Maps

theorem ListInv.keep {base b bv br bd : Nat} {d : Int} {w0 wI w1 w2 : World} {l : List J} (h : ListInv base b bv br bd d w0 wI l w1) (hbne : b ≠ bv ∧ b ≠ br ∧ b ≠ bd) (hb8 : 8 ≤ b) (hk : Kp b w1 w2) : ListInv base b bv br bd d w0 wI l w2 := by
  obtain ⟨hE, hK, hb0, hba, hfx, ⟨lo1, lo2, lo3, lo4, lo5, lo6⟩, hbr, hbd, ao, cap, xs, hbv, hown, hne, hrep⟩ := h
  have hs := hk.size
  have hs0 := hK.size
  refine ⟨hE.keep (fun k h8 => hk.block k (by omega) (by omega)), hK.trans hk, hb0, ⟨hba.1, by omega⟩, (fun k h1 h2 h3 => (hk.block k (by omega) h2).trans (hfx k h1 h2 h3)), ⟨lo1, lo2, lo3, by omega, by omega, by omega⟩, ?_, ?_, ao, cap, xs, ?_, ?_, hne, ?_⟩
  · rw [hk.block br lo5 (Ne.symm hbne.2.1)]; exact hbr
  · rw [hk.block bd lo6 (Ne.symm hbne.2.2)]; exact hbd
  · rw [hk.block bv lo4 (Ne.symm hbne.1)]; exact hbv
  · exact ownsRow_keep hown (fun g hg => hk.block g (ownsRow_ge hown hg).2 (fun e => hne g hg (by simp [e])))
  · exact RepL.up _ _ (RepL.keep _ _ hrep (fun k ka kb => hk.block k kb (by omega))) hs

theorem list_part (base b bv br bd k : Nat) (d : Int) (T : ByteArray) (tx : Nat → Res ByteArray) (hV : ValOk T tx k) (hd0 : 0 ≤ d) (hd : d + 1 + k = 64) (w0 wI : World) (hT : T.size ≤ 65536) (hb8 : 8 ≤ b) (hbne : b ≠ bv ∧ b ≠ br ∧ b ≠ bd) (hdis : br ≠ bv ∧ bd ≠ bv) :
    PartOk b T 88 #[.pointer (some ⟨bv, 0, none⟩), .pointer (some ⟨br, 0, none⟩), .pointer (some ⟨bd, 0, none⟩)] (itemR (valR T tx k)) List.length (fun l w => ListInv base b bv br bd d w0 wI l w) (Kp b w0) where
  grow := fun l m l' m' h => by
    unfold itemR at h
    cases hv : valR T tx k m with
    | ok j n => rw [hv] at h; simp only [Res.map, Res.ok.injEq] at h; obtain ⟨rfl, _⟩ := h; simp
    | bad e p => rw [hv] at h; simp [Res.map] at h
  keep := fun l w1 w2 h hk => h.keep hbne hb8 hk
  gone := fun l w1 h => h.kp
  walk := fun l m w1 hI hA hm hl => by
    cases hv : valR T tx k m with
    | ok j n =>
      refine (list1_walk base b bv br bd m k d T tx hV hd0 hd l w0 wI w1 hI hA hm hT hl hb8 hbne hdis j n hv).mono ?_
      rintro e w2 ⟨rfl, h1, h2, h3, h4⟩
      have : itemR (valR T tx k) l m = .ok (l ++ [j]) n := by unfold itemR; rw [hv]; rfl
      rw [this]
      exact ⟨rfl, h1, h2, h3, h4⟩
    | bad er p =>
      refine (list1_bad base b bv br bd m k d T tx hV hd0 hd l w0 wI w1 hI hA hm hb8 er p hv).mono ?_
      rintro e w2 ⟨rfl, h1⟩
      have : itemR (valR T tx k) l m = .bad er p := by unfold itemR; rw [hv]; rfl
      rw [this]
      exact ⟨rfl, h1⟩

theorem RepL.down {w : World} {lo lo2 hi : Nat} {obs : List Nat} : (l : List J) → (xs : List Value) → RepL w lo hi obs l xs → lo2 ≤ lo → RepL w lo2 hi obs l xs
  | [], _, h, _ => h
  | j :: js, xs, h, hk => by
    unfold RepL at *
    obtain ⟨lo', hi', h1, h2, h3, h4, h5, h6, h7⟩ := h
    exact ⟨lo', hi', by omega, h2, h3, h4, h5, h6, h7⟩
/-- The world in which the list's own variables stand. -/
def wList (w : World) (b : Nat) (d : Int) (kind : Int) : World := (((w.alloc (.cells #[.pointer (some ⟨b, 0, none⟩)] 72)).alloc (.cells #[.int .i64 d] 3)).alloc (.cells #[.int .i64 0, .int .i64 0, .string noS, nilS, nilS] 25)).alloc (.cells #[.int .i64 kind, .int .i64 0, .string noS, nilS, nilS] 25)
theorem alloc_at {w : World} {o : Obj} {k : Nat} (h : k = w.heap.size) : (w.alloc o).heap[k]? = some o := by rw [h]; exact heap_alloc_new w o
theorem alloc_old {w : World} {o : Obj} {k : Nat} (h : k < w.heap.size) : (w.alloc o).heap[k]? = w.heap[k]? := Below.heap_alloc w o k h
theorem wList_size (w : World) (b : Nat) (d kind : Int) : (wList w b d kind).heap.size = w.heap.size + 4 := by simp [wList]
theorem wList_old (w : World) (b : Nat) (d kind : Int) {k : Nat} (h : k < w.heap.size) : (wList w b d kind).heap[k]? = w.heap[k]? := by
  unfold wList
  rw [alloc_old (by simp; omega), alloc_old (by simp; omega), alloc_old (by simp; omega), alloc_old h]
theorem wList_0 (w : World) (b : Nat) (d kind : Int) : (wList w b d kind).heap[w.heap.size]? = some (.cells #[.pointer (some ⟨b, 0, none⟩)] 72 (0, 0)) := by
  unfold wList
  rw [alloc_old (by simp; omega), alloc_old (by simp; omega), alloc_old (by simp), alloc_at rfl]
theorem wList_1 (w : World) (b : Nat) (d kind : Int) : (wList w b d kind).heap[w.heap.size + 1]? = some (.cells #[.int .i64 d] 3 (0, 0)) := by
  unfold wList
  rw [alloc_old (by simp), alloc_old (by simp), alloc_at (by simp)]
theorem wList_2 (w : World) (b : Nat) (d kind : Int) : (wList w b d kind).heap[w.heap.size + 1 + 1]? = some (.cells #[.int .i64 0, .int .i64 0, .string noS, nilS, nilS] 25 (0, 0)) := by
  unfold wList
  rw [alloc_old (by simp), alloc_at (by simp)]
theorem wList_3 (w : World) (b : Nat) (d kind : Int) : (wList w b d kind).heap[w.heap.size + 1 + 1 + 1]? = some (.cells #[.int .i64 kind, .int .i64 0, .string noS, nilS, nilS] 25 (0, 0)) := by
  unfold wList
  rw [alloc_at (by simp)]
theorem wList_kp (w : World) (b : Nat) (d kind : Int) : Kp b w (wList w b d kind) := ((((Kp.refl b w).alloc _).alloc _).alloc _).alloc _
theorem list_start (b : Nat) (d : Int) (w : World) (hE : Env w) (hb : b < w.heap.size) (hb8 : 8 ≤ b) : ListInv (w.heap.size + 4) b (w.heap.size + 1 + 1 + 1) w.heap.size (w.heap.size + 1) d w (wList w b d 5) [] (wList w b d 5) := by
  have hs := wList_size w b d 5
  refine ⟨hE.keep (fun k hk => wList_old w b d 5 (by omega)), wList_kp w b d 5, hb, ⟨by omega, by omega⟩, fun _ _ _ _ => rfl, ⟨by omega, by omega, by omega, by omega, by omega, by omega⟩, wList_0 w b d 5, wList_1 w b d 5, none, 0, [], wList_3 w b d 5, World.ownsRow_nil _ _ _ _, ?_, ?_⟩
  · intro g hg; cases hg
  · unfold RepL; rfl

theorem put5_kp {b : Nat} {x w : World} (h : Kp b x w) {g : Nat} (hg : x.heap.size ≤ g) (p : Nat) (a0 a1 a2 a3 a4 : Value) : Kp b x (put5 w g p a0 a1 a2 a3 a4) :=
  ((((h.setNew hg _).setNew hg _).setNew hg _).setNew hg _).setNew hg _
theorem list_done {b n n' : Nat} {T : ByteArray} {w w5 W : World} {l : List J} {ao : Option Addr} {cap : Nat} {xs : List Value}
    (hW : W = put5 w5 (w.heap.size + 1 + 1) 0 (.int .i64 5) (.int .i64 0) (.string noS) (.slice none 0 0) (.slice ao l.length cap))
    (hb : b < w.heap.size) (hK : Kp b w w5) (_hba : w.heap.size ≤ w.heap.size + 4 ∧ w.heap.size + 4 ≤ w5.heap.size)
    (hown : w5.ownsRow (w.heap.size + 4) 25 5 (.slice ao l.length cap) l.length xs)
    (hrep : RepL w5 (w.heap.size + 4) w5.heap.size ([w.heap.size + 1 + 1 + 1, w.heap.size, w.heap.size + 1, b] ++ (Value.slice ao l.length cap).ownBlock.toList) l xs)
    (hA : At b T n' w5) (_h0 : n ≤ T.size) (h1 : n < n') (h2 : n' ≤ T.size) :
    VPost b T n w (.returned (.agg #[.int .i64 5, .int .i64 0, .string noS, .slice none 0 0, .slice ao l.length cap])) W (.ok (.list l) n') := by
  have hsz : W.heap.size = w5.heap.size := by rw [hW, put5_size]
  have hfar : ∀ k, k ≠ w.heap.size + 1 + 1 → W.heap[k]? = w5.heap[k]? := fun k hk => by rw [hW, put5_far _ _ _ _ _ hk]
  have hKW : Kp b w W := by rw [hW]; exact put5_kp hK (by omega) _ _ _ _ _ _
  refine ⟨5, 0, noS, none, 0, 0, ao, l.length, cap, rfl, ?_, ?_, hKW, h1, h2⟩
  · unfold Rep
    refine ⟨_, xs, rfl, ownsRow_lower (ownsRow_keep hown (fun g hg => hfar g (by have := (ownsRow_ge hown hg).1; omega))) (by omega), fun g hg => by have := (ownsRow_ge hown hg).2; omega, ?_⟩
    rw [hsz]
    refine RepL.down _ _ (RepL.obs _ _ (RepL.keep _ _ hrep (fun k ka kb => hfar k (by omega))) (fun g hg => Or.inl (List.mem_append_right _ hg))) (by omega)
  · unfold At at *
    rw [hfar b (by omega)]; exact hA

set_option maxHeartbeats 1000000 in
theorem list_any (b n k : Nat) (d : Int) (T : ByteArray) (tx : Nat → Res ByteArray) (hV : ValOk T tx k) (hd0 : 0 ≤ d) (hd : d + 1 + k = 64) (w : World) (hA : At b T n w) (hE : Env w) (hb8 : 8 ≤ b) (hn : n < T.size) (hT : T.size ≤ 65536) :
    Calls Tryz.prog 67 #[.pointer (some ⟨b, 0, none⟩), .int .i64 d] w fun e w' => VPost b T n w e w' ((betweenR (itemR (valR T tx k)) 93 T [] n).map .list) := by
  have hmf : ∀ (fn : Fn) (first cap : Array Value) (w : World), (Instr.makeFunc fn first cap).run Tryz.prog w = .ok (.func fn first cap) w := fun _ _ _ _ => rfl
  have hbl := hA.lt
  have hI := list_start b d w hE hbl hb8
  have hP := list_part (w.heap.size + 4) b (w.heap.size + 1 + 1 + 1) w.heap.size (w.heap.size + 1) k d T tx hV hd0 hd w (wList w b d 5) hT hb8 ⟨by omega, by omega, by omega⟩ ⟨by omega, by omega⟩
  have hA4 : At b T n (wList w b d 5) := (wList_old w b d 5 hbl).trans hA
  have hsI := wList_size w b d 5
  have HI : Hid (ListInv (w.heap.size + 4) b (w.heap.size + 1 + 1 + 1) w.heap.size (w.heap.size + 1) d w (wList w b d 5) [] (wList w b d 5)) := hI
  have h2 := wList_2 w b d 5
  have H2 : Hid ((wList w b d 5).heap[w.heap.size + 1 + 1]? = some (.cells #[.int .i64 0, .int .i64 0, .string noS, nilS, nilS] 25 (0, 0))) := h2
  clear hI hsI h2 hE hd hd0
  go_enter Tryz.func67, Tryz.ntmps67
  go_wp2_with fail
  refine (between_list b n T 93 ⟨w.heap.size + 1 + 1 + 1, 0, none⟩ ⟨w.heap.size, 0, none⟩ ⟨w.heap.size + 1, 0, none⟩ (itemR (valR T tx k)) List.length (fun l w' => ListInv (w.heap.size + 4) b (w.heap.size + 1 + 1 + 1) w.heap.size (w.heap.size + 1) d w (wList w b d 5) l w') (Kp b w) hP [] (wList w b d 5) hA4 hn hT HI (Nat.zero_le _)).mono ?_
  intro e w5 hB
  cases hb : betweenR (itemR (valR T tx k)) 93 T [] n with
  | bad er p =>
    rw [hb] at hB
    obtain ⟨rfl, hG⟩ := hB
    have HR : Hid ((betweenR (itemR (valR T tx k)) 93 T [] n).map J.list = .bad er p) := by unfold Hid; rw [hb]; rfl
    clear hb hP
    go_wp2_with fail
    refine ⟨rfl, ?_⟩
    rw [HR.out]
    exact ⟨rfl, hG⟩
  | ok l n' =>
    rw [hb] at hB
    obtain ⟨rfl, hI5, hA5, hl1, hl2⟩ := hB
    have HR : Hid ((betweenR (itemR (valR T tx k)) 93 T [] n).map J.list = .ok (.list l) n') := by unfold Hid; rw [hb]; rfl
    clear hb hP HI
    obtain ⟨hE5, hK5, hb0, hba, hfx, lo, _, _, ao, cap, xs, hbv, hown, hne, hrep⟩ := hI5
    have hres : w5.heap[w.heap.size + 1 + 1]? = some (.cells #[.int .i64 0, .int .i64 0, .string noS, nilS, nilS] 25 (0, 0)) := (hfx _ (by omega) (by omega) (by omega)).trans H2.out
    have v0 : w5.cell? ⟨w.heap.size + 1 + 1 + 1, 0, none⟩ = some (.int .i64 5) := cell_of hbv 0
    have v1 : w5.cell? ⟨w.heap.size + 1 + 1 + 1, 1, none⟩ = some (.int .i64 0) := cell_of hbv 1
    have v2 : w5.cell? ⟨w.heap.size + 1 + 1 + 1, 2, none⟩ = some (.string noS) := cell_of hbv 2
    have v3 : w5.cell? ⟨w.heap.size + 1 + 1 + 1, 3, none⟩ = some (.slice none 0 0) := cell_of hbv 3
    have v4 : w5.cell? ⟨w.heap.size + 1 + 1 + 1, 4, none⟩ = some (.slice ao l.length cap) := cell_of hbv 4
    have r0 : w5.cell? ⟨w.heap.size + 1 + 1, 0, none⟩ = some (.int .i64 0) := cell_of hres 0
    have r1 : w5.cell? ⟨w.heap.size + 1 + 1, 1, none⟩ = some (.int .i64 0) := cell_of hres 1
    have r2 : w5.cell? ⟨w.heap.size + 1 + 1, 2, none⟩ = some (.string noS) := cell_of hres 2
    have r3 : w5.cell? ⟨w.heap.size + 1 + 1, 3, none⟩ = some (.slice none 0 0) := cell_of hres 3
    have r4 : w5.cell? ⟨w.heap.size + 1 + 1, 4, none⟩ = some (.slice none 0 0) := cell_of hres 4
    have rf := fun o => frozen_of hres o
    have HFx : Hid (∀ k, k < w.heap.size + 4 → k ≠ b → k ≠ w.heap.size + 1 + 1 + 1 → w5.heap[k]? = (wList w b d 5).heap[k]?) := hfx
    have HBv : Hid (w5.heap[w.heap.size + 1 + 1 + 1]? = some (.cells #[.int .i64 5, .int .i64 0, .string noS, nilS, .slice ao l.length cap] 25 (0, 0))) := hbv
    clear hfx hbv hres
    go_wp2_with fail
    refine bodyPost_ret (v := .agg #[.int .i64 5, .int .i64 0, .string noS, .slice none 0 0, .slice ao l.length cap]) ?_ rfl ?_
    · simp [results, Tryz.results67, go_sem, r0, r1, r2, r3, r4]
    · rw [HR.out]
      exact list_done (w5 := w5) (W := put5 w5 (w.heap.size + 1 + 1) 0 (.int .i64 5) (.int .i64 0) (.string noS) (.slice none 0 0) (.slice ao l.length cap)) rfl hbl hK5 hba hown hrep hA5 (by omega) hl1 hl2
end Go.Proofs.YtnccaidlcaeeaaaGreatDoor
