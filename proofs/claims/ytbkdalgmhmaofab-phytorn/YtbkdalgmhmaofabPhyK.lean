/- strings.Builder at this program: what WriteString and String answer, as the shelf has it; what a builder keeps. -/
import Derived.Shelf.Strings.BuilderK
import Derived.Test.YtbkdalgmhmaofabPhyJ
namespace Go.Proofs.Ytbkdalgmhmaofab.lane
open Go.Shelf Go.RowKit
set_option linter.unusedVariables false

def bren : Go.Shelf.Ren := ⟨fun | 166 => 12 | 169 => 13 | 240 => 27 | 276 => 38 | n => n,
  fun | 0 => 0 | 3 => 3 | 4 => 4 | 5 => 5 | 9 => 9 | 20 => 20 | 37 => 41 | 70 => 40 | 72 => 43 | 75 => 45 | 76 => 46 | 80 => 48 | 127 => 58 | 164 => 66 | n => n, fun | n => n⟩
theorem laysW : Go.Proofs.Lays.n166 Try.prog bren := {
  mixed := by kernel_rfl
  f166 := Try.func12.trans (congrArg some (by kernel_rfl))
  f240 := Try.func27.trans (congrArg some (by kernel_rfl))
  f276 := Try.func38.trans (congrArg some (by kernel_rfl))
  t0 := Try.underlying0
  a0 := Try.isAgg0
  z0 := Try.sizeOf0
  v0 := Try.zeroValue0
  t3 := Try.underlying3
  a3 := Try.isAgg3
  z3 := Try.sizeOf3
  v3 := Try.zeroValue3
  t4 := Try.underlying4
  a4 := Try.isAgg4
  z4 := Try.sizeOf4
  v4 := Try.zeroValue4
  t9 := Try.underlying9
  a9 := Try.isAgg9
  z9 := Try.sizeOf9
  v9 := Try.zeroValue9
  t20 := Try.underlying20
  a20 := Try.isAgg20
  z20 := Try.sizeOf20
  v20 := Try.zeroValue20
  t37 := Try.underlying41
  a37 := Try.isAgg41
  z37 := Try.sizeOf41
  v37 := Try.zeroValue41
  t70 := Try.underlying40
  a70 := Try.isAgg40
  z70 := Try.sizeOf40
  v70 := Try.zeroValue40
  t72 := Try.underlying43
  a72 := Try.isAgg43
  z72 := Try.sizeOf43
  v72 := Try.zeroValue43
  t75 := Try.underlying45
  a75 := Try.isAgg45
  z75 := Try.sizeOf45
  v75 := Try.zeroValue45
  t164 := Try.underlying66
  a164 := Try.isAgg66
  z164 := Try.sizeOf66
  v164 := Try.zeroValue66 }
theorem laysS : Go.Proofs.Lays.n169 Try.prog bren := {
  mixed := by kernel_rfl
  f169 := Try.func13.trans (congrArg some (by kernel_rfl))
  t0 := Try.underlying0
  a0 := Try.isAgg0
  z0 := Try.sizeOf0
  v0 := Try.zeroValue0
  t3 := Try.underlying3
  a3 := Try.isAgg3
  z3 := Try.sizeOf3
  v3 := Try.zeroValue3
  t9 := Try.underlying9
  a9 := Try.isAgg9
  z9 := Try.sizeOf9
  v9 := Try.zeroValue9
  t37 := Try.underlying41
  a37 := Try.isAgg41
  z37 := Try.sizeOf41
  v37 := Try.zeroValue41
  t70 := Try.underlying40
  a70 := Try.isAgg40
  z70 := Try.sizeOf40
  v70 := Try.zeroValue40
  t72 := Try.underlying43
  a72 := Try.isAgg43
  z72 := Try.sizeOf43
  v72 := Try.zeroValue43
  t127 := Try.underlying58
  a127 := Try.isAgg58
  z127 := Try.sizeOf58
  v127 := Try.zeroValue58 }
theorem bextra : Builder.Extra Try.prog bren := {
  sizeBuilder := by kernel_rfl
  liesBuilder := by kernel_rfl
  t5 := Try.underlying5
  a5 := Try.isAgg5
  z5 := Try.sizeOf5
  v5 := Try.zeroValue5
  infoByte := by kernel_rfl
  cellsByte := by kernel_rfl
  sizeByte := by kernel_rfl
  neB5 := by decide }
/-- a builder at block b that holds the bytes l; its rows lie from B on -/
def Bld (w : World) (B b : Nat) (l : List UInt8) : Prop := Lib.IsBuilderF 43 5 B b (Lib.byteCells l) w
theorem write_any (B b : Nat) (l : List UInt8) (s : ByteArray) (w : World) (h : Bld w B b l) (hlen : l.length + s.size ≤ 140737488355328) (hBw : B ≤ w.heap.size) :
    Calls Try.prog 12 #[.pointer (some ⟨b, 0, none⟩), .string s] w fun e w' => e = .returned (.tuple #[.int .i64 s.size, .nilIface]) ∧ Bld w' B b (l ++ s.data.toList) ∧ Below B w w' ∧ Lib.OthersKept 5 (some b) w w' := by
  refine Calls.mono (Any.Builder_WriteString_k laysW bextra B b (Lib.byteCells l) s w h (by rw [Lib.byteCells_length]; exact hlen) hBw) ?_
  rintro e w' ⟨he, h1, h2, h3⟩
  refine ⟨he, .inr ?_, h2, h3⟩
  rw [Lib.byteCells_append]
  exact h1
theorem string_any (B b : Nat) (l : List UInt8) (w : World) (h : Bld w B b l) (hBw : B ≤ w.heap.size) :
    Calls Try.prog 13 #[.pointer (some ⟨b, 0, none⟩)] w fun e w' => e = .returned (.string ⟨l.toArray⟩) ∧ Below B w w' ∧ Lib.OthersKept 5 (some b) w w' := by
  refine Calls.mono (Any.Builder_String_any_k laysS bextra B b l w h hBw) ?_
  rintro e w' ⟨he, h1, h2, h3⟩
  exact ⟨he, h2, h3⟩
theorem Bld.fresh (w : World) : Bld (w.alloc (.cells #[.pointer none, .slice none 0 0] 43)) w.heap.size w.heap.size [] := Lib.IsBuilderF.of (Lib.fresh_isBuilder 43 5 w)
theorem bld_at {w u : World} {B b : Nat} {p : Value} {bs : List Value} {row : Option Nat} (h : Lib.BuilderAtF 43 5 B b p bs w) (hg : w.grownBy u row) (h1 : some b ≠ row) (h2 : ∀ g, row = some g → ∃ c fz, w.heap[g]? = some (.cells c 35 fz)) :
    Lib.BuilderAtF 43 5 B b p bs u := by
  have hlt := h.lt
  obtain ⟨hB, v, hb, hown, hne⟩ := h
  refine ⟨hB, v, (hg.block b hlt h1).trans hb, hown.kept hg ?_, hne⟩
  cases hv : v.ownBlock with
  | none => exact .inl rfl
  | some g =>
    right
    intro c
    obtain ⟨c1, f1, e1⟩ := Lib.ownsRowF_kind hown g hv
    obtain ⟨c2, f2, e2⟩ := h2 g c.symm
    rw [e1] at e2
    injection e2 with e2
    injection e2 with _ e3 _
    exact absurd e3 (by decide)
theorem Bld.grown {w u : World} {B b : Nat} {l : List UInt8} {row : Option Nat} (h : Bld w B b l) (hg : w.grownBy u row) (h1 : some b ≠ row) (h2 : ∀ g, row = some g → ∃ c fz, w.heap[g]? = some (.cells c 35 fz)) : Bld u B b l := by
  rcases h with h | h
  · exact .inl (bld_at h hg h1 h2)
  · exact .inr (bld_at h hg h1 h2)
theorem Bld.below {w u : World} {B b : Nat} {l : List UInt8} (h : Bld w B b l) (hb : Below w.heap.size w u) : Bld u B b l := h.grown (grown_below hb) (by simp) (fun g hg => by cases hg)
theorem Hrs.kind {w : World} {B : Nat} {v : Value} {L : List (List Int × Int)} (h : Hrs w B v L) : ∀ g, v.ownBlock = some g → ∃ c fz, w.heap[g]? = some (.cells c 35 fz) := by
  intro g hg
  rcases h.2 with ⟨rfl, _⟩ | ⟨g', cap, cur, rfl, _, hgg, _⟩
  · cases hg
  · have : g' = g := by simpa [Value.ownBlock] using hg
    subst this
    exact ⟨cur, (0, 0), hgg⟩
theorem Hrs.others {w u : World} {B b : Nat} {v : Value} {L : List (List Int × Int)} (h : Hrs w B v L) (ho : Lib.OthersKept 5 (some b) w u) (hb : v.ownBlock ≠ some b) : Hrs u B v L := by
  refine ⟨h.1, ?_⟩
  rcases h.2 with hn | ⟨g, cap, cur, rfl, hbs, hgg, rest⟩
  · exact .inl hn
  · refine .inr ⟨g, cap, cur, rfl, hbs, ?_, rest⟩
    refine ho g _ hgg (fun c => hb (by rw [c.symm]; rfl)) ?_
    intro c fz e
    injection e with _ e2 _
    exact absurd e2 (by decide)
end Go.Proofs.Ytbkdalgmhmaofab.lane
