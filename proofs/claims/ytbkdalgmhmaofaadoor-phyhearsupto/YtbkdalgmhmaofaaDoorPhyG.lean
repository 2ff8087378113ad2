/- an ear as an argument: what its datum is, and that it reads so. -/
import Derived.Test.YtbkdalgmhmaofaaDoorPhyH
import Derived.OpenShut
import Derived.ChangeArms
import Derived.ChangeSame
namespace Go.Proofs.YtbkdalgmhmaofaaDoor.lane
open Go.ChangeShapes Go.WideShapes Go.ChangeAt Go.RowKit

theorem one_array {α : Type} {cs : Array α} (h : cs.size = 1) : ∃ c0, cs = #[c0] := by
  obtain ⟨l⟩ := cs
  match l, h with
  | [c0], _ => exact ⟨c0, rfl⟩
theorem one_list {α : Type} {l : List α} (h : l.length = 1) : ∃ c0, l = [c0] := by
  match l, h with
  | [c0], _ => exact ⟨c0, rfl⟩
theorem ear_cells : Tryd.prog.cellsOf 27 = 1 := by kernel_rfl
theorem str_cells : Tryd.prog.cellsOf 9 = 1 := by kernel_rfl
/-- an ear's datum -/
abbrev earD {H : Type} (r : ByteArray) : DataW H := .agg [.lit (.string r.data.toList)]
theorem ear_open {H : Type} {enc : TypeId × Value → H} {w : World} {base : Nat} {spare : Nat → Bool} {held : Bool} {r : Reach} {b0 : Nat} {v : Value} {x : DataW H} {p : List MemPlace} (hv : Value.okWide Tryd.prog w r b0 27 v) (h : DataW.Trod enc Tryd.prog w base spare held 27 v x p) :
    ∃ (d : ByteArray), v = ear d ∧ x = earD d ∧ p = [] ∧ d.size ≤ maxLen := by
  obtain ⟨cs, rfl, hsz⟩ := okWide_struct Tryd.underlying27 hv
  obtain ⟨c0, rfl⟩ := one_array (hsz.trans ear_cells)
  obtain ⟨fuel, hf⟩ := h
  obtain ⟨xs, n, _, hx, _, hlen, hfs⟩ := DataW.trod_struct Tryd.underlying27 hf
  obtain ⟨y0, rfl⟩ := one_list hlen
  have g0 := hfs 0 _ rfl
  simp [Value.cells, str_cells] at g0
  obtain ⟨d, e4, rfl, wd⟩ := DataW.trod_string Tryd.underlying9 g0
  simp at e4
  subst e4
  simp only [Prod.mk.injEq] at hx
  exact ⟨d, rfl, hx.1, hx.2, wd⟩
theorem ear_shut {H : Type} {enc : TypeId × Value → H} {w : World} {base : Nat} {spare : Nat → Bool} {held : Bool} {d : ByteArray} (wd : d.size ≤ maxLen) :
    DataW.Trod enc Tryd.prog w base spare held 27 (ear d) (earD d) [] := by
  refine ⟨2, ?_⟩
  have := trod_struct_mk (enc := enc) (w := w) (base := base) (spare := spare) (held := held) (n := 1) (cs := [.string d]) (xs := [(.lit (.string d.data.toList), [])]) Tryd.underlying27 (by rw [ear_cells]; rfl)
    (by simp [DataW.trod, str_cells, Tryd.underlying9, wd])
  simpa [Value.cells] using this
end Go.Proofs.YtbkdalgmhmaofaaDoor.lane
