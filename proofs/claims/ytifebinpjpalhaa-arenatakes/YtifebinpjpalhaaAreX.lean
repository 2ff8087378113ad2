/- plugref: slices.SortFunc of spans by where they begin. -/
import Derived.Test.YtifebinpjpalhaaAreA
import Derived.Test.YtifebinpjpalhaaShelfS
namespace Go.Proofs.Ytifebinpjpalhaa.arena
open Go Go.RowKit Go.Sort Go.Lib
set_option linter.unusedVariables false
set_option linter.unusedSimpArgs false
set_option maxRecDepth 100000

/-- a span that begins within bounds -/
abbrev Bs := { x : Sp // 0 ≤ x.1 ∧ x.1 ≤ 65536 }
abbrev zBs : Bs := ⟨(0, 0), by decide⟩
def encB (x : Bs) : List Value := pcell x.val
def cfB (x y : Bs) : Int := x.val.1 - y.val.1
theorem lt_cf (x y : Bs) : ltOf cfB x y = decide (x.val.1 < y.val.1) := by
  unfold ltOf cfB
  rw [decide_eq_decide]
  omega
theorem swo_cf : SWO (ltOf cfB) where
  irrefl x := by rw [lt_cf]; simp
  trans x y z h1 h2 := by rw [lt_cf] at *; simp only [decide_eq_true_eq] at *; omega
  ntrans x y z h1 h2 := by rw [lt_cf] at *; simp only [decide_eq_false_iff_not] at *; omega
set_option maxHeartbeats 1000000 in
theorem cmp_any (x y : Bs) (W : World) : Calls Try.prog 31 #[.agg #[.int .i64 x.val.1, .int .i64 x.val.2], .agg #[.int .i64 y.val.1, .int .i64 y.val.2]] W fun e w' => e = .returned (.int .i64 (cfB x y)) ∧ ∃ q os', w' = grow (W.drewN q) os' := by
  obtain ⟨⟨xp, xs⟩, hx1, hx2⟩ := x
  obtain ⟨⟨yp, ys⟩, hy1, hy2⟩ := y
  simp only at hx1 hx2 hy1 hy2
  unfold cfB
  simp only
  go_enter Try.func31, Try.ntmps31
  go_wp2
  go_ret
  exact ⟨rfl, 0, _, by rw [alloc_eq_grow, alloc_eq_grow, grow_grow]; rfl⟩
theorem sorted_unique : ∀ (T M : List Sp), M.Perm T → M.Pairwise (fun x y => x.1 ≤ y.1) → T.Pairwise (fun x y => x.1 < y.1) → M = T
  | [], M, h, _, _ => h.eq_nil
  | t :: T, [], h, _, _ => by have := h.length_eq; simp at this
  | t :: T, m :: M, h, hM, hT => by
    rw [List.pairwise_cons] at hM hT
    have hmt : m = t := by
      have h1 : m ∈ t :: T := h.mem_iff.1 (by simp)
      have h2 : t ∈ m :: M := h.mem_iff.2 (by simp)
      rcases List.mem_cons.1 h1 with q | q
      · exact q
      · rcases List.mem_cons.1 h2 with q2 | q2
        · exact q2.symm
        · have := hT.1 m q
          have := hM.1 t q2
          omega
    subst hmt
    rw [sorted_unique T M (List.Perm.cons_inv h) hM.2 hT.2]
theorem row_pair {z : Int} : ∀ (L : List Sp) (f : Int), rowB z f L = true → L.Pairwise (fun x y => x.1 < y.1)
  | [], _, _ => List.Pairwise.nil
  | x :: r, f, h => by
    have hr := row_cons.1 h
    refine List.Pairwise.cons (fun y hy => ?_) (row_pair r _ hr.2)
    have := row_mem hr.2 hy
    omega
def arrB (L : List Sp) (h : ∀ x ∈ L, 0 ≤ x.1 ∧ x.1 ≤ 65536) : Array Bs := (L.pmap (fun x hx => (⟨x, hx⟩ : Bs)) h).toArray
theorem arrB_size (L : List Sp) (h : ∀ x ∈ L, 0 ≤ x.1 ∧ x.1 ≤ 65536) : (arrB L h).size = L.length := by simp [arrB]
theorem arrB_val (L : List Sp) (h : ∀ x ∈ L, 0 ≤ x.1 ∧ x.1 ≤ 65536) : (arrB L h).toList.map (·.val) = L := by
  simp [arrB, List.map_pmap]
theorem full_extract {α : Type} (d : Array α) (n : Nat) (h : d.size = n) : d.extract 0 n = d := by subst h; simp
set_option maxHeartbeats 1000000 in
theorem sort_any (B g n cap : Nat) (L : List Sp) (w : World) (hv : Sps w B (.slice (some ⟨g, 0, none⟩) n cap) L) (hn : L.length = n) (hb : ∀ x ∈ L, 0 ≤ x.1 ∧ x.1 ≤ 65536) (hl : L.length ≤ 1000) :
    Calls Try.prog 30 #[.slice (some ⟨g, 0, none⟩) n cap, .func (.func 31) #[] #[]] w fun e w' => e = .returned (.tuple #[]) ∧ ∃ M, M.Perm L ∧ M.Pairwise (fun x y => x.1 ≤ y.1) ∧ Rss w' (.slice (some ⟨g, 0, none⟩) n cap) M ∧ Below B w w' := by
  haveI : Inhabited Bs := ⟨zBs⟩
  have hB : B ≤ g := own_block hv g rfl
  have hg : g < w.heap.size := (World.ownsRow.lt hv g rfl).2
  have hsz := arrB_size L hb
  have hcap : L.length ≤ cap ∧ cap ≤ maxLen := by
    obtain ⟨a, c, h1, h2, h3⟩ := hv.form
    injection h1 with _ _ h1
    subst h1
    exact ⟨h2, h3⟩
  have hval := arrB_val L hb
  obtain ⟨d, hd⟩ : ∃ d, arrB L hb = d := ⟨_, rfl⟩
  rw [hd] at hsz hval
  have hat : ∀ i, i < L.length → L[i]? = some (d[i]!).val := fun i hi => by
    rw [← hval, List.getElem?_map, Array.getElem?_toList, getElem!_pos d i (by omega), Array.getElem?_eq_getElem (by omega)]
    rfl
  have hv' : w.ownsRow B 43 2 (.slice (some ⟨g, 0, none⟩) n cap) n (pcells L) := by
    have := hv
    unfold Sps at this
    rw [hn] at this
    exact this
  have hH : HoldsK encB 2 w g 0 d := by
    intro j hj
    rw [size_flatK] at hj
    rw [get_flatK encB 2 d j hj]
    refine ⟨?_, World.ownsRow.frozenAt hv' _⟩
    have hj2 : j / 2 < L.length := by omega
    have hp := pcells_at L (j / 2) _ (hat _ hj2)
    rw [Nat.zero_add, World.ownsRow.cellAt hv' j (by omega)]
    unfold encB pcell
    rcases (by omega : j = j / 2 * 2 ∨ j = j / 2 * 2 + 1) with q | q
    · rw [show j % 2 = 0 by omega]
      rw [q] at ⊢
      rw [hp.1, show j / 2 * 2 / 2 = j / 2 by omega]
      rfl
    · rw [show j % 2 = 1 by omega]
      rw [q] at ⊢
      rw [hp.2, show (j / 2 * 2 + 1) / 2 = j / 2 by omega]
      rfl
  have hcon := Try.slices_SortFunc encB (fun _ => rfl) (fun x v hv => by simp [encB, pcell] at hv; rcases hv with rfl | rfl <;> rfl) cfB swo_cf 31 #[] g 0 cap d w (enters_of Try.func31 (by kernel_rfl) rfl) (fun _ _ _ _ x y => cmp_any x y _) hH hg (by omega)
  rw [hsz, hn] at hcon
  refine hcon.mono ?_
  rintro e w' ⟨rfl, d', m, os, hp, hs, rfl⟩
  refine ⟨rfl, d'.toList.map (·.val), ?_, ?_, ?_, ?_⟩
  · have h1 := hp.2.2
    rw [full_extract d' n (by rw [hp.1]; omega), full_extract d n (by omega)] at h1
    have h2 := h1.map (·.val)
    rw [hval] at h2
    exact h2
  · rw [List.pairwise_iff_getElem]
    intro i j hi hj hij
    have hi' : i < d'.size := by simpa using hi
    have hj' : j < d'.size := by simpa using hj
    have := hs i j (Nat.zero_le _) hij (by rw [hp.1] at hj'; omega)
    rw [lt_cf, decide_eq_false_iff_not, getElem!_pos d' i hi', getElem!_pos d' j hj'] at this
    simp only [List.getElem_map, Array.getElem_toList]
    omega
  · have hd' : d'.size = n := by rw [hp.1]; omega
    have hH' : HoldsK encB 2 (sortWorldK encB 2 w g 0 m d' os) g 0 d' := holdsK_grow encB 2 _ os g 0 d' (by rw [show (putRowK encB 2 (Sort.ahead w m) g 0 d').heap.size = w.heap.size by simp [putRowK, putRow, mapBlock, Sort.ahead]]; exact hg) (holdsK_putRowK encB 2 (Sort.ahead w m) g 0 d d' hH hp.1)
    refine ⟨some ⟨g, 0, none⟩, cap, by simp [hd'], by simp [hd']; omega, hcap.2, fun _ => ⟨g, 0, rfl, ?_, fun j x hx => ?_⟩⟩
    · rw [show (sortWorldK encB 2 w g 0 m d' os).heap.size = w.heap.size + os.size by simp [sortWorldK, grow, putRowK, putRow, mapBlock, Sort.ahead]]
      omega
    · have hj : j < d'.size := by simpa using (List.getElem?_eq_some_iff.1 hx).1
      rw [List.getElem?_map, Array.getElem?_toList, Array.getElem?_eq_getElem hj] at hx
      have hx : (d'[j]).val = x := by simpa using hx
      have c0 := (hH'.cell (i := j) (c := 0) hj (by omega)).1
      have c1 := (hH'.cell (i := j) (c := 1) hj (by omega)).1
      rw [getElem!_pos d' j hj] at c0 c1
      unfold encB pcell at c0 c1
      rw [hx] at c0 c1
      exact ⟨c0, c1⟩
  · refine ⟨rfl, rfl, rfl, ?_, fun k hk => ?_⟩
    · rw [show (sortWorldK encB 2 w g 0 m d' os).heap.size = w.heap.size + os.size by simp [sortWorldK, grow, putRowK, putRow, mapBlock, Sort.ahead]]
      omega
    · have hkg : g ≠ k := by omega
      unfold sortWorldK grow putRowK putRow mapBlock Sort.ahead
      simp only
      rw [Array.getElem?_append_left (by simp; omega), Array.getElem?_modify, if_neg hkg]
end Go.Proofs.Ytifebinpjpalhaa.arena
