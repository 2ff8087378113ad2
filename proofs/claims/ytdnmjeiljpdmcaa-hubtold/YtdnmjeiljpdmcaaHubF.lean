/- hub: several boxes at once; results that lie in boxes. -/
import Derived.Test.YtdnmjeiljpdmcaaHubE
import Derived.Laws.BitsAllLaws
import Derived.Laws.BitsLemmas
namespace Go.Proofs.Ytdnmjeiljpdmcaa.hub
open Go Go.RowKit
open Go.Proofs.Ytdnmjeiljpdmcaa.slots (cl cl_at cl_set cl_ext allF allF_step allF_end allF_iff anyF)
set_option linter.unusedVariables false
set_option linter.unusedSimpArgs false
set_option maxRecDepth 100000

abbrev Bk := Nat × TypeId × List Int
/-- the boxes of a call, and what was there ahead of it -/
structure Mm (w u : World) (L : List Bk) : Prop where
  lies : ∀ x ∈ L, u.heap[x.1]? = some (bx x.2.1 x.2.2)
  own : ∀ x ∈ L, w.heap.size ≤ x.1
  ap : (L.map (·.1)).Nodup
  below : Below w.heap.size w u
theorem Mm.nil (w : World) : Mm w w [] := ⟨fun x h => absurd h (by simp), fun x h => absurd h (by simp), List.nodup_nil, Below.refl _ _⟩
theorem Mm.new {w u v : World} {L : List Bk} {B : Nat} {T : TypeId} {l : List Int} (h : Mm w u L) (n : New u v B T l) : Mm w v ((B, T, l) :: L) where
  lies := fun x hx => by
    rcases List.mem_cons.1 hx with rfl | q
    · exact n.lies
    · exact keep (h.lies x q) n.below
  own := fun x hx => by
    rcases List.mem_cons.1 hx with rfl | q
    · show w.heap.size ≤ B; rw [n.at']; exact h.below.size
    · exact h.own x q
  ap := by
    rw [List.map_cons, List.nodup_cons]
    refine ⟨fun q => ?_, h.ap⟩
    obtain ⟨y, hy, e⟩ := List.mem_map.1 q
    have h1 := bx_lt (h.lies y hy)
    have h2 : y.1 = u.heap.size := e.trans n.at'
    omega
  below := bsq h.below n.below
theorem Mm.call {w u v : World} {L : List Bk} (h : Mm w u L) (hb : Below u.heap.size u v) : Mm w v L := ⟨fun x hx => keep (h.lies x hx) hb, h.own, h.ap, bsq h.below hb⟩
theorem Mm.put {w u v : World} {pre post : List Bk} {B : Nat} {T : TypeId} {l l' : List Int} (h : Mm w u (pre ++ (B, T, l) :: post)) (hc : Chg B u v) (hl : v.heap[B]? = some (bx T l')) : Mm w v (pre ++ (B, T, l') :: post) := by
  have hap := h.ap
  rw [List.map_append, List.map_cons, List.nodup_append] at hap
  obtain ⟨hp, hq, hpq⟩ := hap
  rw [List.nodup_cons] at hq
  refine ⟨fun x hx => ?_, fun x hx => ?_, ?_, hc.below _ _ (h.own (B, T, l) (by simp)) h.below⟩
  · rcases List.mem_append.1 hx with q | q
    · rw [hc.other x.1 (fun e => hpq x.1 (List.mem_map.2 ⟨x, q, rfl⟩) B (by simp) e)]
      exact h.lies x (List.mem_append.2 (.inl q))
    · rcases List.mem_cons.1 q with rfl | q
      · exact hl
      · rw [hc.other x.1 (fun e => hq.1 (List.mem_map.2 ⟨x, q, e⟩))]
        exact h.lies x (List.mem_append.2 (.inr (List.mem_cons_of_mem _ q)))
  · rcases List.mem_append.1 hx with q | q
    · exact h.own x (List.mem_append.2 (.inl q))
    · rcases List.mem_cons.1 q with rfl | q
      · exact h.own (B, T, l) (by simp)
      · exact h.own x (List.mem_append.2 (.inr (List.mem_cons_of_mem _ q)))
  · have := h.ap
    rw [List.map_append, List.map_cons] at this ⊢
    exact this
section
variable {w u v : World} {a b c d f : Bk} {L : List Bk} {B : Nat} {T : TypeId} {l l' : List Int}
theorem Mm.at0 (h : Mm w u ((B, T, l) :: L)) : u.heap[B]? = some (bx T l) := h.lies (B, T, l) (by simp)
theorem Mm.at1 (h : Mm w u (a :: (B, T, l) :: L)) : u.heap[B]? = some (bx T l) := h.lies (B, T, l) (by simp)
theorem Mm.at2 (h : Mm w u (a :: b :: (B, T, l) :: L)) : u.heap[B]? = some (bx T l) := h.lies (B, T, l) (by simp)
theorem Mm.at3 (h : Mm w u (a :: b :: c :: (B, T, l) :: L)) : u.heap[B]? = some (bx T l) := h.lies (B, T, l) (by simp)
theorem Mm.at4 (h : Mm w u (a :: b :: c :: d :: (B, T, l) :: L)) : u.heap[B]? = some (bx T l) := h.lies (B, T, l) (by simp)
theorem Mm.at5 (h : Mm w u (a :: b :: c :: d :: f :: (B, T, l) :: L)) : u.heap[B]? = some (bx T l) := h.lies (B, T, l) (by simp)
theorem Mm.put0 (h : Mm w u ((B, T, l) :: L)) (hc : Chg B u v) (hl : v.heap[B]? = some (bx T l')) : Mm w v ((B, T, l') :: L) := Mm.put (pre := []) h hc hl
theorem Mm.put1 (h : Mm w u (a :: (B, T, l) :: L)) (hc : Chg B u v) (hl : v.heap[B]? = some (bx T l')) : Mm w v (a :: (B, T, l') :: L) := Mm.put (pre := [a]) h hc hl
theorem Mm.put2 (h : Mm w u (a :: b :: (B, T, l) :: L)) (hc : Chg B u v) (hl : v.heap[B]? = some (bx T l')) : Mm w v (a :: b :: (B, T, l') :: L) := Mm.put (pre := [a, b]) h hc hl
theorem Mm.put3 (h : Mm w u (a :: b :: c :: (B, T, l) :: L)) (hc : Chg B u v) (hl : v.heap[B]? = some (bx T l')) : Mm w v (a :: b :: c :: (B, T, l') :: L) := Mm.put (pre := [a, b, c]) h hc hl
theorem Mm.put4 (h : Mm w u (a :: b :: c :: d :: (B, T, l) :: L)) (hc : Chg B u v) (hl : v.heap[B]? = some (bx T l')) : Mm w v (a :: b :: c :: d :: (B, T, l') :: L) := Mm.put (pre := [a, b, c, d]) h hc hl
theorem Mm.put5 (h : Mm w u (a :: b :: c :: d :: f :: (B, T, l) :: L)) (hc : Chg B u v) (hl : v.heap[B]? = some (bx T l')) : Mm w v (a :: b :: c :: d :: f :: (B, T, l') :: L) := Mm.put (pre := [a, b, c, d, f]) h hc hl
end
theorem ld_var {w : World} {B n : Nat} {T t : TypeId} {l : List Int} (hT : Row t n) (h : w.heap[B]? = some (bx T l)) (hl : l.length = n) : (loadVar t ⟨B, 0, none⟩).run Try.prog w = .ok (ag l) w := by
  have := run_load (k := 0) hT h (by omega)
  rw [cut_all hl] at this
  simpa only [Instr.loadAt, Instr.sureAddr, Sem.run_bind, Sem.run_pure, Result.andThen_ok] using this
theorem ret_1 {fn : Func} {p : Tmp} {t : TypeId} {tmps : Array Value} {w : World} {B : Nat} {v : Value} (h : fn.results = #[.cell p t]) (hp : tmps.getD p undef = .pointer (some ⟨B, 0, none⟩)) (hl : (loadVar t ⟨B, 0, none⟩).run Try.prog w = .ok v w) :
    (results fn tmps).run Try.prog w = .ok v w := by
  have hp' : tmps[p]?.getD undef = .pointer (some ⟨B, 0, none⟩) := by simpa using hp
  simp [results, h, hp', asAddr, hl]
theorem ret_2 {fn : Func} {p i : Tmp} {t : TypeId} {tmps : Array Value} {w : World} {B : Nat} {v v1 : Value} (h : fn.results = #[.cell p t, .tmp i]) (hp : tmps.getD p undef = .pointer (some ⟨B, 0, none⟩)) (hl : (loadVar t ⟨B, 0, none⟩).run Try.prog w = .ok v w)
    (h1 : tmps.getD i undef = v1) : (results fn tmps).run Try.prog w = .ok (.tuple #[v, v1]) w := by
  have hp' : tmps[p]?.getD undef = .pointer (some ⟨B, 0, none⟩) := by simpa using hp
  have h1' : tmps[i]?.getD undef = v1 := by simpa using h1
  simp [results, h, hp', asAddr, hl, h1']
theorem ret_3 {fn : Func} {p i j : Tmp} {t : TypeId} {tmps : Array Value} {w : World} {B : Nat} {v v1 v2 : Value} (h : fn.results = #[.cell p t, .tmp i, .tmp j]) (hp : tmps.getD p undef = .pointer (some ⟨B, 0, none⟩)) (hl : (loadVar t ⟨B, 0, none⟩).run Try.prog w = .ok v w)
    (h1 : tmps.getD i undef = v1) (h2 : tmps.getD j undef = v2) : (results fn tmps).run Try.prog w = .ok (.tuple #[v, v1, v2]) w := by
  have hp' : tmps[p]?.getD undef = .pointer (some ⟨B, 0, none⟩) := by simpa using hp
  have h1' : tmps[i]?.getD undef = v1 := by simpa using h1
  have h2' : tmps[j]?.getD undef = v2 := by simpa using h2
  simp [results, h, hp', asAddr, hl, h1', h2']
theorem Mm.tail {w u : World} {x : Bk} {L : List Bk} (h : Mm w u (x :: L)) : Mm w u L := ⟨fun y hy => h.lies y (List.mem_cons_of_mem _ hy), fun y hy => h.own y (List.mem_cons_of_mem _ hy), by have := h.ap; rw [List.map_cons, List.nodup_cons] at this; exact this.2, h.below⟩
theorem Mm.drewN {w u : World} {L : List Bk} (h : Mm w u L) (n : Nat) : Mm w (u.drewN n) L := ⟨h.lies, h.own, h.ap, ⟨h.below.os, h.below.tape, h.below.output, h.below.size, h.below.block⟩⟩
theorem Mm.drew {w u : World} {L : List Bk} (h : Mm w u L) : Mm w u.drew L := ⟨h.lies, h.own, h.ap, h.below.drew⟩
/-- some boxes, for a region that draws -/
structure Ls (u : World) (L : List Bk) : Prop where
  lies : ∀ x ∈ L, u.heap[x.1]? = some (bx x.2.1 x.2.2)
theorem Mm.ls {w u : World} {L L' : List Bk} (h : Mm w u L) (hs : ∀ x ∈ L', x ∈ L) : Ls u L' := ⟨fun x hx => h.lies x (hs x hx)⟩
section
variable {u : World} {a b c d f : Bk} {L : List Bk} {B : Nat} {T : TypeId} {l : List Int}
theorem Ls.at0 (h : Ls u ((B, T, l) :: L)) : u.heap[B]? = some (bx T l) := h.lies (B, T, l) (by simp)
theorem Ls.at1 (h : Ls u (a :: (B, T, l) :: L)) : u.heap[B]? = some (bx T l) := h.lies (B, T, l) (by simp)
theorem Ls.at2 (h : Ls u (a :: b :: (B, T, l) :: L)) : u.heap[B]? = some (bx T l) := h.lies (B, T, l) (by simp)
theorem Ls.at3 (h : Ls u (a :: b :: c :: (B, T, l) :: L)) : u.heap[B]? = some (bx T l) := h.lies (B, T, l) (by simp)
theorem Ls.at4 (h : Ls u (a :: b :: c :: d :: (B, T, l) :: L)) : u.heap[B]? = some (bx T l) := h.lies (B, T, l) (by simp)
theorem Ls.at5 (h : Ls u (a :: b :: c :: d :: f :: (B, T, l) :: L)) : u.heap[B]? = some (bx T l) := h.lies (B, T, l) (by simp)
end
theorem Mm.lts {w u : World} {L : List Bk} (h : Mm w u L) : ∀ b ∈ L.map (·.1), b < u.heap.size := fun b hb => by
  obtain ⟨x, hx, rfl⟩ := List.mem_map.1 hb
  exact bx_lt (h.lies x hx)
theorem Mm.callB {w u v : World} {L : List Bk} {B : Nat} (h : Mm w u L) (hlt : ∀ b ∈ L.map (·.1), b < B) (hw : w.heap.size ≤ B) (hb : Below B u v) : Mm w v L :=
  ⟨fun x hx => (hb.block x.1 (hlt x.1 (List.mem_map.2 ⟨x, hx, rfl⟩))).trans (h.lies x hx), h.own, h.ap, h.below.trans (hb.mono hw)⟩
end Go.Proofs.Ytdnmjeiljpdmcaa.hub
