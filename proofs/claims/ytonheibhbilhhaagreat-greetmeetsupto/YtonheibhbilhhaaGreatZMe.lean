/- a configuration as an argument: how much its lists weigh. -/
import Derived.Test.YtonheibhbilhhaaGreatZAf
import Derived.SizedLaws
import Derived.Test.YtonheibhbilhhaaGreatRows
import Derived.Test.YtonheibhbilhhaaGreatZAk
import Derived.Test.YtonheibhbilhhaaGreatZGa
namespace Go.Proofs.YtonheibhbilhhaaGreat.desc
open Go.ChangeShapes Go.WideShapes Go.ChangeAt Go.RowKit Go.Proofs.YtonheibhbilhhaaGreat.lane Go.PlainAid Go.Deep
set_option linter.unusedVariables false
set_option maxRecDepth 10000
section
variable {H : Type} {enc : TypeId × Value → H} {w : World} {base : Nat} {spare : Nat → Bool} {held : Bool}
def Lt (t : TypeId) (x : DataW H) : Prop := ∀ n ∈ x.weights Tryz.prog t, n ≤ reachBytes
theorem mem_all {e : TypeId} : ∀ {l : List (DataW H)} {d : DataW H}, d ∈ l → ∀ n ∈ d.weights Tryz.prog e, n ∈ DataW.weightsAll Tryz.prog e l := by
 intro l
 induction l with
 | nil => intro d hd; simp at hd
 | cons a r ih =>
  intro d hd n hn
  rw [DataW.weightsAll]
  rcases List.mem_cons.1 hd with rfl | hd
  ·exact List.mem_append_left _ hn
  ·exact List.mem_append_right _ (ih hd n hn)
theorem Lt.slice {t e : TypeId} {elems sp : List (DataW H)} (ht : Tryz.prog.underlying t = some (.slice e)) (h : Lt t (DataW.slice elems sp)) : elems.length * Tryz.prog.bytesOf e ≤ reachBytes ∧ ∀ d ∈ elems, Lt e d := by
 unfold Lt at h
 rw [DataW.weights] at h
 simp only [ht] at h
 refine ⟨?_, fun d hd n hn => h n (List.mem_cons_of_mem _ (List.mem_append_left _ (mem_all hd n hn)))⟩
 have h1 := h _ (List.mem_cons_self ..)
 exact Nat.le_trans (Nat.mul_le_mul_right _ (Nat.le_add_right _ _)) h1
theorem Lt.part {t : TypeId} {fs : Array Field} {parts : List (DataW H)} (ht : Tryz.prog.underlying t = some (.struct fs)) (h : Lt t (DataW.agg parts)) {j : Nat} {u : TypeId} {d : DataW H} (h1 : (fs.toList.map (·.type))[j]? = some u) (h2 : parts[j]? = some d) : Lt u d := by
 unfold Lt at h
 rw [DataW.weights] at h
 simp only [ht] at h
 exact fun n hn => h n (DataW.weights_mem_each h1 h2 n hn)
end
end Go.Proofs.YtonheibhbilhhaaGreat.desc
namespace Go.Proofs.YtonheibhbilhhaaGreat.greet
open Go.ChangeShapes Go.WideShapes Go.ChangeAt Go.RowKit Go.PlainAid Go.Deep Go.Proofs.YtonheibhbilhhaaGreat.lane Go.Proofs.YtonheibhbilhhaaGreat.desc Go.Proofs.YtonheibhbilhhaaGreat.gadget
set_option linter.unusedVariables false
set_option maxRecDepth 100000
theorem laid_out : laidOutB Tryz.prog = true := by kernel_rfl
theorem spot_of {w : World} {a : Addr} {v : Value} (h : w.cell? (a.add 0) = some v) : ∃ g off, a = ⟨g, off, none⟩ ∧ g < w.heap.size := by
 obtain ⟨b, off, spot⟩ := a
 have hspot : spot = none := by simpa [Addr.add] using World.cell?_spot h
 subst hspot
 exact ⟨b, off, rfl, by simpa [Addr.add] using World.block_lt_of_cell? w _ h⟩
section
variable {H : Type} {enc : TypeId × Value → H} {w : World} {base : Nat} {spare : Nat → Bool} {held : Bool}
theorem open_ints {fuel : Nat} {v : Value} {x : DataW H × List MemPlace} (h : DataW.trod enc Tryz.prog w base spare held fuel 30 [v] = some x) : ∃ l, Ris w v l := by
 rcases open_slice1 Tryz.underlying30 int_cells h with ⟨hcs, _⟩ | ⟨a, len, cap, m, n, V, D, Pl, hcs, _, hl, hm, hmm, _, hcell⟩
 ·simp at hcs; subst hcs
  exact ⟨[], none, 0, rfl, Nat.le_refl _, Nat.zero_le _, fun q => by simp at q⟩
 ·simp at hcs; subst hcs
  have hlm : len ≤ m := by rw [hmm]; split <;> omega
  have hE : ∀ i, i < len → ∃ k : Int, V i = .int .i64 k := fun i hi => by
   obtain ⟨k, e, _, _⟩ := DataW.trod_int Tryz.underlying3 (hcell i (by omega)).2
   simp at e
   exact ⟨k, e⟩
  obtain ⟨E, hE⟩ := choose_lt hE
  refine ⟨(List.range len).map E, some a, cap, by simp, by simpa using hl, hm, fun hn => ?_⟩
  have hn : 0 < len := by simpa using hn
  obtain ⟨g, off, rfl, hg⟩ := spot_of (hcell 0 (by omega)).1
  refine ⟨g, off, rfl, hg, fun j y hy => ?_⟩
  obtain ⟨hj, rfl⟩ := range_at hy
  have := (hcell j (by omega)).1
  rw [Addr.add_lit, hE j hj] at this
  exact this
theorem ints_open {r : Reach} {b0 : Nat} {v : Value} {x : DataW H} {p : List MemPlace} (hv : Value.okWide Tryz.prog w r b0 30 v) (h : DataW.Trod enc Tryz.prog w base spare held 30 v x p) : ∃ l, Ris w v l := by
 obtain ⟨a0, len, cap, rfl⟩ := okWide_slice Tryz.underlying30 hv
 obtain ⟨fuel, hf⟩ := h
 exact open_ints hf
structure Rg (w : World) (g : Gr) (u : Value) (L : FL) : Prop where
 rc : Rc w u g.c L
 sr : g.sr.size ≤ maxLen
end
end Go.Proofs.YtonheibhbilhhaaGreat.greet
