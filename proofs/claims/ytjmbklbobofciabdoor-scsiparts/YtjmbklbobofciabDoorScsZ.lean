/- strings.Replace of a command's first byte. -/
import Derived.Test.YtjmbklbobofciabDoorScsV
import Derived.Test.YtjmbklbobofciabDoorScsD
namespace Go.Proofs.YtjmbklbobofciabDoor.scsi
open Go.RowKit Go.PlainAid Go.Proofs.YtjmbklbobofciabDoor.lane Go.Proofs.YtjmbklbobofciabDoor.pipe Go.Proofs.YtjmbklbobofciabDoor.strike
set_option linter.unusedVariables false
set_option linter.unusedSimpArgs false
set_option maxRecDepth 100000

theorem rep_list (r : List UInt8) : Lib.replace (40 :: r) [40] [42] 1 = 42 :: r := by
  have h0 : Lib.index (40 :: r) [40] = (0 : Nat) := by
    unfold Lib.index; simp
  unfold Lib.replace
  rw [if_neg (by decide)]
  have hn : Lib.replaceNum (40 :: r) [40] 1 = 1 := by
    unfold Lib.replaceNum
    rw [if_neg]
    · rfl
    · intro q
      rcases q with q | q
      · omega
      · have hc := Lib.count_hit (s := 40 :: r) (sub := [40]) (i := 0) (by decide) h0
        rw [hc] at q
        omega
  rw [hn, Lib.replaceK_hit _ _ _ _ _ h0]
  simp [Lib.replaceK]
theorem mk_head {op lba cnt : Int} (h : mkB op lba cnt = true) : (mkT op lba cnt).data.toList = UInt8.ofNat op.toNat :: (strOfNums ((cmdL 0 lba cnt).drop 1)).data.toList := by
  unfold mkT
  rw [if_pos h, strOfNums_data, strOfNums_data]
  rfl
theorem rep_any {lba cnt : Int} (h : mkB 40 lba cnt = true) (m : Int) (w : World) (hw : w.cell? ⟨0, 0, none⟩ = some (.int .i64 m)) : Calls Tryd.prog 7 #[.string (mkT 40 lba cnt), .string ⟨#[40]⟩, .string ⟨#[42]⟩, .int .i64 1] w fun e w' => e = .returned (.string (mkT 42 lba cnt)) ∧ Below w.heap.size w w' := by
  have h42 : mkB 42 lba cnt = true := (mk_both 42 40 lba cnt rfl rfl).trans h
  have hs := mk_size h
  have hc := Lib.countB_mul_le (⟨#[40]⟩ : ByteArray) (by decide) _ (mkT 40 lba cnt) (Nat.le_refl _)
  have e1 : (⟨#[40]⟩ : ByteArray).size = 1 := rfl
  have e2 : (⟨#[42]⟩ : ByteArray).size = 1 := rfl
  rw [e1, hs] at hc
  have := Tryd.strings_Replace (mkT 40 lba cnt) ⟨#[40]⟩ ⟨#[42]⟩ 1 m w (by omega) hw (by decide) (by rw [e2, hs]; omega)
  have e : (⟨(Lib.replace (mkT 40 lba cnt).data.toList (⟨#[40]⟩ : ByteArray).data.toList (⟨#[42]⟩ : ByteArray).data.toList 1).toArray⟩ : ByteArray) = mkT 42 lba cnt := by
    apply ext_list
    rw [mk_head h, mk_head h42]
    exact rep_list _
  rw [e] at this
  exact this
end Go.Proofs.YtjmbklbobofciabDoor.scsi
