/- scsi: New. -/
import Derived.Test.YtecknicmonhcaabDoorScsI
import Derived.Test.YtecknicmonhcaabDoorScsQ
import Derived.Deep.AppendLies
import Derived.Shelf.Strings.Repeat
namespace Go.Proofs.YtecknicmonhcaabDoor.scsi
open Go.RowKit Go.PlainAid Go.Proofs.YtecknicmonhcaabDoor.lane Go.Proofs.YtecknicmonhcaabDoor.pipe Go.Proofs.YtecknicmonhcaabDoor.strike
set_option linter.unusedVariables false
set_option linter.unusedSimpArgs false
set_option maxRecDepth 100000

/-- a text behind texts -/
theorem app_one {w : World} {B : Nat} {v : Value} {l : List ByteArray} (h : Txs w B v l) (F : Nat) (x : ByteArray) (hF : w.heap[F]? = some (.cells #[.string x] 9)) (hl : l.length ≤ 1000000) (hB : B ≤ w.heap.size) :
    ∃ v' w5, (Builtin.append_ #[22, 22] 22 #[v, .slice (some ⟨F, 0, none⟩) 1 1]).run Tryd.prog w = .ok v' w5 ∧ Txs w5 B v' (l ++ [x]) ∧ Below B w w5 := by
  obtain ⟨i5, hi, hz0, hz1, hz2⟩ := info_parts infoS
  have ho : ∀ u ∈ ([.string x] : List Value), u.oneCell' = true := by simp [Value.oneCell']
  obtain ⟨gg, capn, w5, hrun, hown5, hgrow5, hat5, hgl5⟩ := run_append_lies (P := Tryd.prog) w 22 22 B 9 i5 _ 1 16 Tryd.underlying22 hi hz0 hz1 hz2 rfl (by omega) v l.length (scells l) h ⟨F, 0, none⟩ 1 1 [.string x] rfl (World.news_of_block (cs := #[.string x]) (t := 9) (fr := (0, 0)) hF) ho (by omega) (by unfold maxLen; omega) (by omega) hB _ rfl
  refine ⟨_, w5, hrun, ?_, (Below.refl _ _).grown hgrow5 hB (own_block h)⟩
  unfold Txs
  rw [List.length_append, show scells (l ++ [x]) = scells l ++ [.string x] by simp [scells]]
  exact hown5
/-- sixteen zero bytes -/
def z16 : ByteArray := ⟨(Lib.repeatL (⟨#[0]⟩ : ByteArray).data.toList 16).toArray⟩
theorem z16_size : z16.size = 16 := rfl
theorem repeat_any (w : World) : Calls Tryd.prog 30 #[.string ⟨#[0]⟩, .int .i64 16] w fun e w' => e = .returned (.string z16) ∧ Below w.heap.size w w' :=
  Tryd.strings_Repeat ⟨#[0]⟩ 16 w (by omega) (by show 1 * 16 ≤ _; omega)
/-- what New has made so far -/
def Mk (w : World) (R Y B k : Nat) (wr : World) (v : Value) : Prop :=
  wr.heap[Y]? = some (dkO v 0) ∧ wr.heap[R]? = some (dkO (.slice none 0 0) 0) ∧ Txs wr B v (List.replicate k z16) ∧ Below w.heap.size w wr ∧ B ≤ wr.heap.size
theorem Mk.below {w u u' : World} {R Y B k : Nat} {v : Value} (h : Mk w R Y B k u v) (hb : Below u.heap.size u u') : Mk w R Y B k u' v :=
  ⟨keep h.1 hb, keep h.2.1 hb, h.2.2.1.below hb, bsq h.2.2.2.1 hb, Nat.le_trans h.2.2.2.2 hb.size⟩
theorem Mk.add {w u : World} {R Y B k : Nat} {v : Value} (h : Mk w R Y B k u v) (hw : w.heap.size ≤ Y) (hY : Y < B) (hR : R < B) (hne : R ≠ Y) (hk : k ≤ 1000) (F : Nat) (hF : u.heap[F]? = some (.cells #[.string z16] 9)) :
    ∃ v' w5, (Builtin.append_ #[22, 22] 22 #[v, .slice (some ⟨F, 0, none⟩) 1 1]).run Tryd.prog u = .ok v' w5 ∧ w5.heap[Y]? = some (dkO v 0) ∧ Mk w R Y B (k + 1) (w5.setCell ⟨Y, 0, none⟩ v') v' := by
  obtain ⟨v', w5, hr, ht, hb⟩ := app_one h.2.2.1 F z16 hF (by rw [List.length_replicate]; omega) h.2.2.2.2
  have hY5 : w5.heap[Y]? = some (dkO v 0) := (hb.block Y hY).trans h.1
  refine ⟨v', w5, hr, hY5, csetX 0 _ hY5 rfl, ?_, ?_, ?_, ?_⟩
  · rw [heap_setCell_other _ _ _ _ hne]; exact (hb.block R hR).trans h.2.1
  · rw [List.replicate_succ']; exact txs_setX ht hY _ _
  · exact (h.2.2.2.1.trans (hb.mono (by omega))).setCell hw _
  · have := Nat.le_trans h.2.2.2.2 hb.size; simpa using this
end Go.Proofs.YtecknicmonhcaabDoor.scsi
