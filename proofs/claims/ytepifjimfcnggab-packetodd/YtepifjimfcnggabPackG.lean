/- a packet as an argument: what its datum is, and that it reads so. -/
import Derived.Test.YtepifjimfcnggabPackA
import Derived.OpenShut
import Derived.ChangeArms
import Derived.ChangeSame
namespace Go.Proofs.Ytepifjimfcnggab.pack
open Go.ChangeShapes Go.WideShapes Go.ChangeAt Go.RowKit

theorem five_array {α : Type} {cs : Array α} (h : cs.size = 5) : ∃ c0 c1 c2 c3 c4, cs = #[c0, c1, c2, c3, c4] := by
  obtain ⟨l⟩ := cs
  match l, h with
  | [c0, c1, c2, c3, c4], _ => exact ⟨c0, c1, c2, c3, c4, rfl⟩
theorem five_list {α : Type} {l : List α} (h : l.length = 5) : ∃ c0 c1 c2 c3 c4, l = [c0, c1, c2, c3, c4] := by
  match l, h with
  | [c0, c1, c2, c3, c4], _ => exact ⟨c0, c1, c2, c3, c4, rfl⟩
theorem pk_cells : Try.prog.cellsOf 23 = 5 := by kernel_rfl
theorem int_cells : Try.prog.cellsOf 3 = 1 := by kernel_rfl
theorem str_cells : Try.prog.cellsOf 9 = 1 := by kernel_rfl
/-- a packet's datum -/
abbrev pkD {H : Type} (k a e f : Int) (d : ByteArray) : DataW H := .agg [.lit (.int .i64 k), .lit (.int .i64 a), .lit (.int .i64 e), .lit (.int .i64 f), .lit (.string d.data.toList)]
theorem pk_open {H : Type} {enc : TypeId × Value → H} {w : World} {base : Nat} {spare : Nat → Bool} {held : Bool} {r : Reach} {b0 : Nat} {v : Value} {x : DataW H} {p : List MemPlace} (hv : Value.okWide Try.prog w r b0 23 v) (h : DataW.Trod enc Try.prog w base spare held 23 v x p) :
    ∃ (k a e f : Int) (d : ByteArray), v = pk k a e f d ∧ x = pkD k a e f d ∧ p = [] ∧ (Lit.int .i64 k).wf = true ∧ (Lit.int .i64 a).wf = true ∧ (Lit.int .i64 e).wf = true ∧ (Lit.int .i64 f).wf = true ∧ d.size ≤ maxLen := by
  obtain ⟨cs, rfl, hsz⟩ := okWide_struct Try.underlying23 hv
  obtain ⟨c0, c1, c2, c3, c4, rfl⟩ := five_array (hsz.trans pk_cells)
  obtain ⟨fuel, hf⟩ := h
  obtain ⟨xs, n, _, hx, _, hlen, hfs⟩ := DataW.trod_struct Try.underlying23 hf
  obtain ⟨y0, y1, y2, y3, y4, rfl⟩ := five_list hlen
  have g0 := hfs 0 _ rfl
  have g1 := hfs 1 _ rfl
  have g2 := hfs 2 _ rfl
  have g3 := hfs 3 _ rfl
  have g4 := hfs 4 _ rfl
  simp [Value.cells, int_cells, str_cells] at g0 g1 g2 g3 g4
  obtain ⟨k, e0, rfl, wk⟩ := DataW.trod_int Try.underlying3 g0
  obtain ⟨a, e1, rfl, wa⟩ := DataW.trod_int Try.underlying3 g1
  obtain ⟨e, e2, rfl, we⟩ := DataW.trod_int Try.underlying3 g2
  obtain ⟨f, e3, rfl, wf⟩ := DataW.trod_int Try.underlying3 g3
  obtain ⟨d, e4, rfl, wd⟩ := DataW.trod_string Try.underlying9 g4
  simp at e0 e1 e2 e3 e4
  subst e0 e1 e2 e3 e4
  simp only [Prod.mk.injEq] at hx
  exact ⟨k, a, e, f, d, rfl, hx.1, hx.2, wk, wa, we, wf, wd⟩
theorem pk_shut {H : Type} {enc : TypeId × Value → H} {w : World} {base : Nat} {spare : Nat → Bool} {held : Bool} {k a e f : Int} {d : ByteArray} (wk : (Lit.int .i64 k).wf = true) (wa : (Lit.int .i64 a).wf = true) (we : (Lit.int .i64 e).wf = true) (wf : (Lit.int .i64 f).wf = true) (wd : d.size ≤ maxLen) :
    DataW.Trod enc Try.prog w base spare held 23 (pk k a e f d) (pkD k a e f d) [] := by
  refine ⟨2, ?_⟩
  have := trod_struct_mk (enc := enc) (w := w) (base := base) (spare := spare) (held := held) (n := 1) (cs := [.int .i64 k, .int .i64 a, .int .i64 e, .int .i64 f, .string d]) (xs := [(.lit (.int .i64 k), []), (.lit (.int .i64 a), []), (.lit (.int .i64 e), []), (.lit (.int .i64 f), []), (.lit (.string d.data.toList), [])]) Try.underlying23 (by rw [pk_cells]; rfl)
    (by simp [DataW.trod, int_cells, str_cells, Try.underlying3, Try.underlying9, wk, wa, we, wf, wd])
  simpa [Value.cells] using this
end Go.Proofs.Ytepifjimfcnggab.pack
