/- plugkeep's gadget: asks, a device of nothing; gadgets that are alike. -/
import Derived.Test.YtebaepkghbihkaaGadI
import Derived.Laws.StructEq
namespace Go.Proofs.Ytebaepkghbihkaa.gadget
open Go.RowKit Go.PlainAid Go.Proofs.Ytebaepkghbihkaa.lane Go.Proofs.Ytebaepkghbihkaa.desc
open Go.Proofs.Ytebaepkghbihkaa.setup (inS inS_iff askc good rK rN rC wrT wrC write_any write_read)
set_option linter.unusedVariables false
set_option linter.unusedSimpArgs false

theorem und : Try.prog.underlying 34 = some (.struct (Try.prog.fieldsOf 34)) := by kernel_rfl
theorem stood : Try.prog.stoodInHeld 34 = false := by kernel_rfl
/-- are two gadgets alike? -/
def same (s a h s' a' h' : Int) : Bool := s == s' && (a == a' && h == h')
theorem eq_gd (s a h s' a' h' : Int) (w : World) : (Op.equalIn 10000 34 (gdV s a h) (gdV s' a' h')).run Try.prog w = .ok (same s a h s' a' h') w := by
  rw [run_equalIn_struct w 9999 34 _ _ und stood]
  simp [go_sem]
  unfold same
  by_cases h1 : s = s' <;> by_cases h2 : a = a' <;> by_cases h3 : h = h' <;> simp [h1, h2, h3]
theorem eql_gd (s a h s' a' h' : Int) (w : World) : (binOp .eql 34 (gdV s a h) (gdV s' a' h')).run Try.prog w = .ok (.bool (same s a h s' a' h')) w := by
  rw [run_eql_struct, eq_gd]; rfl
theorem same_iff {s a h s' a' h' : Int} : same s a h s' a' h' = true ↔ s = s' ∧ a = a' ∧ h = h' := by simp [same]
theorem same_self (s a h : Int) : same s a h s a h = true := same_iff.2 ⟨rfl, rfl, rfl⟩
theorem run_sheet {W : World} {B : Nat} {d : Dv} {c : Cf} {v tv : Value} (h : W.heap[B]? = some (shO d c v tv)) : (Instr.loadAt 29 (.pointer (some ⟨B, 0, none⟩))).run Try.prog W = .ok (shV d c v tv) W := by
  simp only [Instr.loadAt, Instr.sureAddr, Sem.run_bind, Sem.run_pure, Result.andThen_ok, run_loadVar_row W B 29 29 _ (0, 0) _ h Try.underlying29 rfl (by kernel_rfl)]
/-- a sheet is read, guarded or not -/
theorem wpList_sheet {ops : Array Oper} {rest : List Oper} {o : Oper} {a : Act} {w : World} {Q : Exit → Act → World → Prop} (hgd : Region.wanted o (yielded ops a.tmps) = true) (x : Operand) (ho : o.op = .load 29 x)
    (B : Nat) (hx : a.eval x = .pointer (some ⟨B, 0, none⟩)) {d : Dv} {c : Cf} {v tv : Value} (hg : w.heap[B]? = some (shO d c v tv)) (h : wpList Try.prog ops Q rest (a.put o.dst (shV d c v tv)) w) : wpList Try.prog ops Q (o :: rest) a w := by
  refine wpList_step fun K hK' => ?_
  rw [if_pos hgd]
  exact wp_load_row _ x ho B hx _ _ (0, 0) _ hg Try.underlying29 rfl (by kernel_rfl) (hK' _ _ h)
/-- Control of an ask that can be asked -/
theorem ctl_asked {d : Dv} {c : Cf} {T : List (List Int)} {s a h k v i l : Int} (hg : good k v i l = true) :
    ctl d c T s a h (wrT k v i l) = if chkS d c T ≠ 0 then bad s a h (chkS d c T) else if gR s a h = false then bad s a h 1 else act d c T s a h k v i l := by
  obtain ⟨e1, e2, e3, e4, e5, _⟩ := write_read hg
  unfold ctl
  rw [e1, e2, e3, e4, e5]
  rfl
theorem asked_any (k v i l : Int) (hi : -9223372036854775808 ≤ i ∧ i ≤ 9223372036854775807) (w : World) :
    Calls Try.prog 16 #[.int .i64 k, .int .i64 v, .int .i64 i, .int .i64 l] w fun e w' => e = .returned (.string (wrT k v i l)) ∧ Below w.heap.size w w' := by
  have HW : Hid (∀ u : World, Calls Try.prog 38 #[setup.ask k v i l] u fun r w' => r = .returned (.tuple #[.string (wrT k v i l), .int .i64 (wrC k v i l)]) ∧ Below u.heap.size u w') := write_any k v i l hi
  clear hi
  generalize wrT k v i l = t at *
  generalize wrC k v i l = z at *
  go_enter Try.func16, Try.ntmps16
  go_wp2_with fail
  refine (HW.out _).mono ?_
  rintro e u ⟨rfl, hb⟩
  go_wp2
  go_ret
  exact ⟨rfl, hb⟩
def d0 : Dv := ⟨0, 0, 0, 0, 8, 0, 0, 0, 0, 0, 0, 1⟩
def c0 : Cf := ⟨1, 0, 0, 0, []⟩
theorem lives_q : wrT 4 7 0 0 = ⟨#[0, 5, 7, 0, 0, 0, 0, 0]⟩ := by
  unfold wrT
  rw [if_pos (by decide)]
  have : setup.txt 4 7 0 0 = [0, 5, 7, 0, 0, 0, 0, 0] := by decide
  rw [this]; rfl
theorem lives_chk : chkS d0 c0 [] = 0 := by decide +kernel
theorem lives_ctl : ctl d0 c0 [] 0 0 0 ⟨#[0, 5, 7, 0, 0, 0, 0, 0]⟩ = ⟨1, 7, 0, noT, 0⟩ := by
  rw [← lives_q, ctl_asked (by decide), lives_chk, if_neg (by omega), if_neg (by decide), act_4, if_neg (by omega), if_neg (by omega)]
theorem Shr.empty (w : World) : Shr w c0 [] (.slice none 0 0) [] (.slice none 0 0) :=
  ⟨⟨⟨⟨none, 0, rfl, Nat.le_refl _, Nat.zero_le _, rfl, fun h => absurd h (by decide)⟩, fun q hq => by simp at hq⟩, rfl⟩, ⟨none, 0, rfl, Nat.le_refl _, Nat.zero_le _, rfl, fun h => absurd h (by decide)⟩, fun p hp => by simp at hp, fun p hp => by simp at hp⟩
set_option maxRecDepth 100000 in
set_option maxHeartbeats 8000000 in
theorem gadgetLives_any (w : World) : Calls Try.prog 13 #[] w fun e w' => e = .returned (.bool true) ∧ Below w.heap.size w w' := by
  obtain ⟨w1, hw1, hS1, hb1⟩ := ShC.named w d0 c0 (.slice none 0 0) (.slice none 0 0)
  have HB1 : Hid (Below w.heap.size w w1) := hb1
  have HS : Hid (∀ u : World, Below w1.heap.size w1 u → u.heap[w.heap.size]? = some (shO d0 c0 (.slice none 0 0) (.slice none 0 0))) := fun u hu => keep hS1 hu
  have HC : Hid (∀ u : World, Calls Try.prog 11 #[shV d0 c0 (.slice none 0 0) (.slice none 0 0), gdV 0 0 0, .string ⟨#[0, 5, 7, 0, 0, 0, 0, 0]⟩] u fun e w' => e = .returned (ansV ⟨1, 7, 0, noT, 0⟩) ∧ Below u.heap.size u w') := fun u => by
    have := control_any d0 c0 [] _ [] _ 0 0 0 ⟨#[0, 5, 7, 0, 0, 0, 0, 0]⟩ u (Shr.empty u) (by show 8 ≤ _; unfold maxLen; omega)
    rw [lives_ctl] at this
    exact this
  have HK : Hid (∀ u : World, Calls Try.prog 9 #[shV d0 c0 (.slice none 0 0) (.slice none 0 0)] u fun e w' => e = .returned (.int .i64 0) ∧ Below u.heap.size u w') := fun u => by
    have := check_any d0 c0 [] _ [] _ u (Shr.empty u)
    rw [lives_chk] at this
    exact this
  have hW1 : Hid (w.alloc (shO d0 c0 (.slice none 0 0) (.slice none 0 0)) = w1) := hw1
  clear hw1 hb1 hS1
  go_enter Try.func13, Try.ntmps13
  go_upto_region 1 with (fail)
  go_cut [1] from 5 (fun pv wx => pv = .pointer (some ⟨w.heap.size, 0, none⟩) ∧ wx = w1)
  case first =>
    go_wp2_with fail
    go_meet
    case rel => exact ⟨rfl, hW1.out⟩
  case rest =>
  obtain ⟨rfl, rfl⟩ := hcut
  rename World => w1
  have hS3 := HS.out w1 (Below.refl _ _)
  go_upto_region 2 with (fail)
  go_cut [2, 3, 4] from 5 (fun pv tv cv wx => ∃ X : Nat, pv = .pointer (some ⟨X, 0, none⟩) ∧ tv = .string noT ∧ cv = .int .i64 0 ∧ Hid (Below w1.heap.size w1 wx ∧ wx.heap[X]? = some (gdO 1 7 0)))
  case first =>
    go_wp2_with (refine wpList_sheet rfl _ rfl w.heap.size rfl hS3 ?_)
    refine (HC.out _).mono ?_
    rintro e u ⟨rfl, hb⟩
    go_wp2_with fail
    go_meet
    case rel => exact ⟨u.heap.size, rfl, rfl, rfl, bsq hb (balloc _ _), (MapKept.heap_alloc u _).1⟩
  case rest =>
  obtain ⟨X, rfl, rfl, rfl, HX⟩ := hcut
  rename World => u2
  have HBu : Hid (Below w1.heap.size w1 u2) := HX.out.1
  obtain ⟨⟨zg, g0, g1, g2⟩, _⟩ := gd_box HX.out.2
  have hS4 := HS.out u2 HBu.out
  have hq := eql_gd 1 7 0 1 7 0
  clear HX hS3
  go_wp2_with (refine wpList_sheet rfl _ rfl w.heap.size rfl hS4 ?_)
  refine (HK.out _).mono ?_
  rintro e u3 ⟨rfl, hb3⟩
  have HB3 : Hid (Below w1.heap.size w1 u3) := bsq HBu.out hb3
  clear hb3
  go_wp2
  go_ret
  exact ⟨rfl, bsq HB1.out HB3.out⟩
end Go.Proofs.Ytebaepkghbihkaa.gadget
