/- a configuration as an argument: how much its lists weigh. -/
import Derived.Test.YtonheibhbilhhaaZAf
import Derived.SizedLaws
namespace Go.Proofs.Ytonheibhbilhhaa.desc
open Go.ChangeShapes Go.WideShapes Go.ChangeAt Go.RowKit Go.Proofs.Ytonheibhbilhhaa.lane Go.PlainAid Go.Deep
set_option linter.unusedVariables false
set_option maxRecDepth 10000

theorem txt_bytes : Try.prog.bytesOf 9 = 16 := by kernel_rfl
theorem end_bytes : Try.prog.bytesOf 85 = 40 := by kernel_rfl
theorem face_bytes : Try.prog.bytesOf 76 = 80 := by kernel_rfl
section
variable {H : Type} {enc : TypeId × Value → H} {w : World} {base : Nat} {spare : Nat → Bool} {held : Bool}
/-- what is read weighs no more than this -/
def Lt (t : TypeId) (x : DataW H) : Prop := ∀ n ∈ x.weights Try.prog t, n ≤ reachBytes
theorem mem_all {e : TypeId} : ∀ {l : List (DataW H)} {d : DataW H}, d ∈ l → ∀ n ∈ d.weights Try.prog e, n ∈ DataW.weightsAll Try.prog e l := by
  intro l
  induction l with
  | nil => intro d hd; simp at hd
  | cons a r ih =>
    intro d hd n hn
    rw [DataW.weightsAll]
    rcases List.mem_cons.1 hd with rfl | hd
    · exact List.mem_append_left _ hn
    · exact List.mem_append_right _ (ih hd n hn)
theorem Lt.slice {t e : TypeId} {elems sp : List (DataW H)} (ht : Try.prog.underlying t = some (.slice e)) (h : Lt t (DataW.slice elems sp)) : elems.length * Try.prog.bytesOf e ≤ reachBytes ∧ ∀ d ∈ elems, Lt e d := by
  unfold Lt at h
  rw [DataW.weights] at h
  simp only [ht] at h
  refine ⟨?_, fun d hd n hn => h n (List.mem_cons_of_mem _ (List.mem_append_left _ (mem_all hd n hn)))⟩
  have h1 := h _ (List.mem_cons_self ..)
  exact Nat.le_trans (Nat.mul_le_mul_right _ (Nat.le_add_right _ _)) h1
theorem Lt.part {t : TypeId} {fs : Array Field} {parts : List (DataW H)} (ht : Try.prog.underlying t = some (.struct fs)) (h : Lt t (DataW.agg parts)) {j : Nat} {u : TypeId} {d : DataW H} (h1 : (fs.toList.map (·.type))[j]? = some u) (h2 : parts[j]? = some d) : Lt u d := by
  unfold Lt at h
  rw [DataW.weights] at h
  simp only [ht] at h
  exact fun n hn => h n (DataW.weights_mem_each h1 h2 n hn)
theorem txs_w {fuel : Nat} {v : Value} {x : DataW H × List MemPlace} (h : DataW.trod enc Try.prog w base spare held fuel 42 [v] = some x) (hw : Lt 42 x.1) {ps : List (List Int)} (hr : Rts w v ps) : ps.length * 16 ≤ reachBytes := by
  obtain ⟨a', c', hv, _⟩ := hr
  rcases open_strs Try.underlying42 Try.underlying9 txt_cells h with ⟨hcs, _⟩ | ⟨a, len, cap, m, Sx, hcs, _, hl, hm, hmm, hx, hcell⟩
  · simp at hcs; rw [hcs] at hv; injection hv with _ h1 _; rw [← h1]; exact Nat.zero_le _
  · simp at hcs; rw [hcs] at hv; injection hv with _ h1 _
    rw [hx] at hw
    have := (hw.slice Try.underlying42).1
    rw [List.length_map, List.length_range, txt_bytes, h1] at this
    exact this
theorem ens_w {fuel : Nat} {v : Value} {x : DataW H × List MemPlace} (h : DataW.trod enc Try.prog w base spare held fuel 74 [v] = some x) (hw : Lt 74 x.1) {es : List En} (hr : Rns w v es) : es.length * 40 ≤ reachBytes := by
  obtain ⟨a', c', hv, _⟩ := hr
  rcases open_slice Try.underlying74 h with ⟨hcs, _⟩ | ⟨a, len, cap, m, n, D, Pl, hcs, _, hl, hm, hmm, hx, hcell⟩
  · simp at hcs; rw [hcs] at hv; injection hv with _ h1 _; rw [← h1]; exact Nat.zero_le _
  · simp at hcs; rw [hcs] at hv; injection hv with _ h1 _
    rw [hx] at hw
    have := (hw.slice Try.underlying74).1
    rw [List.length_map, List.length_range, end_bytes, h1] at this
    exact this
theorem face_w {fuel : Nat} {q : Fc × Value × Value} {x : DataW H × List MemPlace} (h : DataW.trod enc Try.prog w base spare held fuel 76 (fcell q) = some x) (hw : Lt 76 x.1) (hr : Rf w q) : q.1.ex.length * 16 ≤ reachBytes ∧ q.1.en.length * 40 ≤ reachBytes := by
  obtain ⟨xs, n, _, hx, hlen, hxl, hfs⟩ := DataW.trod_struct Try.underlying76 h
  have g4 := hfs 4 _ rfl
  have g5 := hfs 5 _ rfl
  rw [hx] at hw
  match xs, hxl with
  | [y0, y1, y2, y3, y4, y5], _ =>
    simp [fcell, txs_cells, ens_cells] at g4 g5
    exact ⟨txs_w g4 (hw.part Try.underlying76 (j := 4) rfl rfl) hr.ex, ens_w g5 (hw.part Try.underlying76 (j := 5) rfl rfl) hr.en⟩
theorem fcs_w {fuel : Nat} {v : Value} {x : DataW H × List MemPlace} (h : DataW.trod enc Try.prog w base spare held fuel 24 [v] = some x) (hw : Lt 24 x.1) {L : FL} (hr : Rfs w v L) : L.length * 80 ≤ reachBytes ∧ ∀ q ∈ L, q.1.ex.length * 16 ≤ reachBytes ∧ q.1.en.length * 40 ≤ reachBytes := by
  obtain ⟨a', c', hv, _, _, hc⟩ := hr.cell
  rcases open_slice Try.underlying24 h with ⟨hcs, _⟩ | ⟨a, len, cap, m, n, D, Pl, hcs, _, hl, hm, hmm, hx, hcell⟩
  · simp at hcs; rw [hcs] at hv; injection hv with _ h1 _
    have hL : L = [] := List.eq_nil_of_length_eq_zero h1.symm
    subst hL
    exact ⟨Nat.zero_le _, fun q hq => by simp at hq⟩
  · simp at hcs; rw [hcs] at hv; injection hv with h0 h1 _
    have hlm : len ≤ m := by rw [hmm]; split <;> omega
    rw [hx] at hw
    obtain ⟨k1, k2⟩ := hw.slice Try.underlying24
    rw [List.length_map, List.length_range, face_bytes, h1] at k1
    refine ⟨k1, fun q hq => ?_⟩
    obtain ⟨j, hj, he⟩ := List.getElem_of_mem hq
    have hqj : L[j]? = some q := by rw [List.getElem?_eq_getElem hj, he]
    obtain ⟨cs', h2, h3⟩ := hcell j (by omega)
    obtain ⟨g, off, hg, d0, d1, d2, d3, d4, d5⟩ := hc j q hqj
    rw [← h0] at hg
    injection hg with hg
    subst hg
    obtain ⟨_, h4, h5⟩ := World.cells?_some h2
    rw [face_cells] at h4 h5
    have hfc : cs' = fcell q := by
      apply List.ext_getElem?
      intro r
      by_cases hr6 : r < 6
      · have h6 := h5 r hr6
        rw [Addr.add_lit, Addr.add_lit] at h6
        rw [← h6]
        match r, hr6 with
        | 0, _ => exact d0
        | 1, _ => exact d1
        | 2, _ => exact d2
        | 3, _ => exact d3
        | 4, _ => exact d4
        | 5, _ => exact d5
      · rw [List.getElem?_eq_none (by omega), List.getElem?_eq_none (by simp [fcell]; omega)]
    rw [hfc] at h3
    exact face_w h3 (k2 _ (List.mem_map.2 ⟨j, List.mem_range.2 (by omega), rfl⟩)) (hr.all q hq)
theorem cf_weighs {c : Cf} {u : Value} {L : FL} {x : DataW H} {p : List MemPlace} (h : DataW.Trod enc Try.prog w base spare held 26 (cfV c u) x p) (hc : Rc w u c L) (hw : Lt 26 x) : L.length * 80 ≤ reachBytes ∧ ∀ q ∈ L, q.1.ex.length * 16 ≤ reachBytes ∧ q.1.en.length * 40 ≤ reachBytes := by
  obtain ⟨fuel, hf⟩ := h
  obtain ⟨xs, n, _, hx, _, hxl, hfs⟩ := DataW.trod_struct Try.underlying26 hf
  have g4 := hfs 4 _ rfl
  injection hx with hx _
  rw [hx] at hw
  match xs, hxl with
  | [y0, y1, y2, y3, y4], _ =>
    simp [Value.cells, fcs_cells] at g4
    exact fcs_w g4 (hw.part Try.underlying26 (j := 4) rfl rfl) hc.fs
end
end Go.Proofs.Ytonheibhbilhhaa.desc
