/- plugref's setup: what AskText answers. -/
import Derived.Test.YtonheibhbilhhaaSetR
namespace Go.Proofs.Ytonheibhbilhhaa.setup
open Go.RowKit Go.PlainAid Go.Proofs.Ytonheibhbilhhaa.lane Go.Proofs.Ytonheibhbilhhaa.desc
set_option linter.unusedVariables false
set_option linter.unusedSimpArgs false

abbrev heads : ByteArray := ⟨#[128, 0, 2, 1, 2, 3, 0, 5, 128, 6, 0, 9, 128, 8, 163, 0, 35, 3, 35, 1, 33, 255, 161, 254, 33, 10, 33, 9]⟩
theorem head_cut : ∀ j : Fin 14, heads.extract (2 * j.val) (2 * j.val + 2) = strOfNums [col ((j.val : Int) + 1) 0, col ((j.val : Int) + 1) 1] := by decide +kernel
theorem head_run (k : Int) (hk : isK k = true) (W : World) : (Instr.slice 9 (.string heads) (some (.int .i64 (2 * k - 2))) (some (.int .i64 (2 * k))) none).run Try.prog W = .ok (.string (strOfNums [col k 0, col k 1])) W := by
  have h := inS_iff.1 hk
  have e := head_cut ⟨(k - 1).toNat, by omega⟩
  simp only [show (((k - 1).toNat : Nat) : Int) + 1 = k by omega] at e
  have := run_slice_string (P := Try.prog) (w := W) 9 heads .i64 .i64 (2 * k - 2) (2 * k) Try.underlying9 (by omega) (by omega) (by show _ ≤ (28 : Int); omega)
  rw [this, ← e, show (2 * k - 2).toNat = 2 * (k - 1).toNat by omega, show (2 * k).toNat = 2 * (k - 1).toNat + 2 by omega]
theorem ask_text (k v i l : Int) : strOfNums [col k 0, col k 1] ++ strOfNums (wrd v) ++ strOfNums (wrd i) ++ strOfNums (wrd l) = strOfNums (txt k v i l) := by
  rw [← str_append, ← str_append, ← str_append]
  rfl
abbrev BtK (k : Int) (b : Bool) : Prop := ∀ w : World, Calls Try.prog 9 #[.int .i64 k, .int .i64 1, .int .i64 14] w fun e w' => e = .returned (.bool b) ∧ w = w'
abbrev AvK (k v : Int) (b : Bool) : Prop := ∀ w : World, Calls Try.prog 48 #[.int .i64 k, .int .i64 v] w fun e w' => e = .returned (.bool b) ∧ w = w'
abbrev AiK (k v : Int) (b : Bool) : Prop := ∀ w : World, Calls Try.prog 49 #[.int .i64 k, .int .i64 v] w fun e w' => e = .returned (.bool b) ∧ w = w'
abbrev AlK (k v : Int) (b : Bool) : Prop := ∀ w : World, Calls Try.prog 50 #[.int .i64 k, .int .i64 v] w fun e w' => e = .returned (.bool b) ∧ w = w'
set_option maxHeartbeats 2000000 in
theorem askText_no (k v i l : Int) (h : good k v i l = false) (w : World) :
    Calls Try.prog 26 #[ask k v i l] w fun r w' => r = .returned (.tuple #[.string ⟨#[]⟩, .int .i64 1]) ∧ Below w.heap.size w w' := by
  have hcs : BtK k false ∨ (BtK k true ∧ (AvK k v false ∨ (AvK k v true ∧ (AiK k i false ∨ (AiK k i true ∧ AlK k l false))))) := by
    unfold good at h
    cases hk : isK k with
    | false => exact .inl (between_any k 1 14 false hk)
    | true =>
      rw [hk, Bool.true_and] at h
      refine .inr ⟨between_any k 1 14 true hk, ?_⟩
      have a1 := askValue_any k v hk
      have a2 := askIndex_any k i hk
      have a3 := askLength_any k l hk
      unfold fitB at h
      generalize inS (col k 2) (col k 3) v = b1 at *
      generalize inS (col k 6) (col k 7) l = b3 at *
      generalize (if te k then isE i else inS (col k 4) (col k 5) i) = b2 at *
      cases b1 <;> cases b2 <;> cases b3 <;> simp at h
      all_goals first | exact .inl a1 | exact .inr ⟨a1, .inl a2⟩ | exact .inr ⟨a1, .inr ⟨a2, a3⟩⟩
  clear h
  rcases hcs with h1 | ⟨h1, h2 | ⟨h2, h3 | ⟨h3, h4⟩⟩⟩
  · have H1 : Hid (BtK k false) := h1
    clear h1
    go_enter Try.func26, Try.ntmps26
    go_wp2_with fail
    refine (H1.out _).mono ?_
    rintro r u ⟨rfl, rfl⟩
    go_wp2
    go_ret2
    exact ⟨rfl, balloc _ _⟩
  · have H1 : Hid (BtK k true) := h1
    have H2 : Hid (AvK k v false) := h2
    clear h1 h2
    go_enter Try.func26, Try.ntmps26
    go_wp2_with fail
    refine (H1.out _).mono ?_
    rintro r u ⟨rfl, rfl⟩
    go_wp2_with fail
    refine (H2.out _).mono ?_
    rintro r u ⟨rfl, rfl⟩
    go_wp2
    go_ret2
    exact ⟨rfl, balloc _ _⟩
  · have H1 : Hid (BtK k true) := h1
    have H2 : Hid (AvK k v true) := h2
    have H3 : Hid (AiK k i false) := h3
    clear h1 h2 h3
    go_enter Try.func26, Try.ntmps26
    go_wp2_with fail
    refine (H1.out _).mono ?_
    rintro r u ⟨rfl, rfl⟩
    go_wp2_with fail
    refine (H2.out _).mono ?_
    rintro r u ⟨rfl, rfl⟩
    go_wp2_with fail
    refine (H3.out _).mono ?_
    rintro r u ⟨rfl, rfl⟩
    go_wp2
    go_ret2
    exact ⟨rfl, balloc _ _⟩
  · have H1 : Hid (BtK k true) := h1
    have H2 : Hid (AvK k v true) := h2
    have H3 : Hid (AiK k i true) := h3
    have H4 : Hid (AlK k l false) := h4
    clear h1 h2 h3 h4
    go_enter Try.func26, Try.ntmps26
    go_wp2_with fail
    refine (H1.out _).mono ?_
    rintro r u ⟨rfl, rfl⟩
    go_wp2_with fail
    refine (H2.out _).mono ?_
    rintro r u ⟨rfl, rfl⟩
    go_wp2_with fail
    refine (H3.out _).mono ?_
    rintro r u ⟨rfl, rfl⟩
    go_wp2_with fail
    refine (H4.out _).mono ?_
    rintro r u ⟨rfl, rfl⟩
    go_wp2
    go_ret2
    exact ⟨rfl, balloc _ _⟩
set_option maxRecDepth 100000 in
set_option maxHeartbeats 4000000 in
theorem askText_ok (k v i l : Int) (h : good k v i l = true) (w : World) :
    Calls Try.prog 26 #[ask k v i l] w fun r w' => r = .returned (.tuple #[.string (strOfNums (txt k v i l)), .int .i64 0]) ∧ Below w.heap.size w w' := by
  obtain ⟨hk, hv, hi, hl⟩ := good_words h
  have hK : isK k = true := inS_iff.2 hk
  have hf : fitB k v i l = true := by unfold good at h; rw [hK, Bool.true_and] at h; exact h
  unfold fitB at hf
  rw [Bool.and_eq_true, Bool.and_eq_true] at hf
  have H1 : Hid (BtK k true) := between_any k 1 14 true hK
  have H2 : Hid (AvK k v true) := by have := askValue_any k v hK; rw [hf.1.2] at this; exact this
  have H3 : Hid (AiK k i true) := by have := askIndex_any k i hK; rw [hf.1.1] at this; exact this
  have H4 : Hid (AlK k l true) := by have := askLength_any k l hK; rw [hf.2] at this; exact this
  have hsl := head_run k hK
  have m1 : IntKind.i64.wrap (2 * k) = 2 * k := by rw [IntKind.wrap_i64]; omega
  have m2 : IntKind.i64.wrap (2 * k - 2) = 2 * k - 2 := by rw [IntKind.wrap_i64]; omega
  have n1 : wrap64 (2 * k) = 2 * k := by unfold wrap64; omega
  have n2 : wrap64 (2 * k - 2) = 2 * k - 2 := by unfold wrap64; omega
  have HTv : Hid (∀ w : World, Calls Try.prog 51 #[.int .i64 v] w fun e w' => e = .returned (.string (strOfNums (wrd v))) ∧ Below w.heap.size w w') := twoBytes_any v hv.1 hv.2
  have HTi : Hid (∀ w : World, Calls Try.prog 51 #[.int .i64 i] w fun e w' => e = .returned (.string (strOfNums (wrd i))) ∧ Below w.heap.size w w') := twoBytes_any i hi.1 hi.2
  have HTl : Hid (∀ w : World, Calls Try.prog 51 #[.int .i64 l] w fun e w' => e = .returned (.string (strOfNums (wrd l))) ∧ Below w.heap.size w w') := twoBytes_any l hl.1 hl.2
  have HE : Hid (strOfNums [col k 0, col k 1] ++ strOfNums (wrd v) ++ strOfNums (wrd i) ++ strOfNums (wrd l) = strOfNums (txt k v i l)) := ask_text k v i l
  have s0 : (strOfNums [col k 0, col k 1]).size = 2 := str_size _
  have s1 : (strOfNums (wrd v)).size = 2 := str_size _
  have s2 : (strOfNums (wrd i)).size = 2 := str_size _
  have s3 : (strOfNums (wrd l)).size = 2 := str_size _
  have HP : Hid (∀ u, Below (w.alloc (askc k v i l)).heap.size (w.alloc (askc k v i l)) u → Ak u w.heap.size k v i l ∧ Below w.heap.size w u) :=
    fun u hu => ⟨(ak_alloc w k v i l).below (by simp) hu, bsq (balloc _ _) hu⟩
  generalize strOfNums (txt k v i l) = R at *
  generalize strOfNums (wrd v) = Tv at *
  generalize strOfNums (wrd i) = Ti at *
  generalize strOfNums (wrd l) = Tl at *
  generalize strOfNums [col k 0, col k 1] = Th at *
  clear h hv hi hl hf hK
  go_enter Try.func26, Try.ntmps26
  go_wp2_with fail
  refine (H1.out _).mono ?_
  rintro r u ⟨rfl, rfl⟩
  go_wp2_with fail
  refine (H2.out _).mono ?_
  rintro r u ⟨rfl, rfl⟩
  go_wp2_with fail
  refine (H3.out _).mono ?_
  rintro r u ⟨rfl, rfl⟩
  go_wp2_with fail
  refine (H4.out _).mono ?_
  rintro r u ⟨rfl, rfl⟩
  go_wp2_with fail
  obtain ⟨W0, hW0⟩ : ∃ W0, w.alloc (askc k v i l) = W0 := ⟨_, rfl⟩
  rw [hW0] at HP ⊢
  have x0 : ∀ W, Below W0.heap.size W0 W → W.cell? ⟨w.heap.size, 0, none⟩ = some (.int .i64 k) := fun W hW => (HP.out W hW).1.c0
  have x1 : ∀ W, Below W0.heap.size W0 W → W.cell? ⟨w.heap.size, 1, none⟩ = some (.int .i64 v) := fun W hW => (HP.out W hW).1.c1
  have x2 : ∀ W, Below W0.heap.size W0 W → W.cell? ⟨w.heap.size, 2, none⟩ = some (.int .i64 i) := fun W hW => (HP.out W hW).1.c2
  have x3 : ∀ W, Below W0.heap.size W0 W → W.cell? ⟨w.heap.size, 3, none⟩ = some (.int .i64 l) := fun W hW => (HP.out W hW).1.c3
  refine wp_abs (fun a0 => a0.tmps.size = 52 ∧ (∀ h, a0.tmps[1]'h = .pointer (some ⟨w.heap.size, 0, none⟩))) ⟨rfl, fun _ => rfl⟩ ?_
  rintro a0 ⟨hsz, g1⟩ ha0
  refine wp_region_L (Cb W0) (by kernel_rfl) (by kernel_rfl) ((Below.refl _ _).drew) ?_
  refine lexb_plain (.pointer (some ⟨w.heap.size, 0, none⟩)) rfl (fun W hW => by simp [execOp, go_sem, hsz, g1]) ?_
  refine lexb_plain (.int .i64 k) rfl (fun W hW => by simp [execOp, go_sem, hsz, g1, x0 W hW]) ?_
  refine lexb_plain (.int .i64 (2 * k)) rfl (fun W hW => by simp [execOp, go_sem, hsz, g1, m1, n1]) ?_
  refine lexb_plain (.int .i64 (2 * k - 2)) rfl (fun W hW => by simp [execOp, go_sem, hsz, g1, m2, n2]) ?_
  refine lexb_plain (.pointer (some ⟨w.heap.size, 0, none⟩)) rfl (fun W hW => by simp [execOp, go_sem, hsz, g1]) ?_
  refine lexb_plain (.int .i64 k) rfl (fun W hW => by simp [execOp, go_sem, hsz, g1, x0 W hW]) ?_
  refine lexb_plain (.int .i64 (2 * k)) rfl (fun W hW => by simp [execOp, go_sem, hsz, g1, m1, n1]) ?_
  refine lexb_plain (.string Th) rfl (fun W hW => by simp [execOp, go_sem, hsz, g1, hsl]) ?_
  refine lexb_plain (.pointer (some ⟨w.heap.size, 1, none⟩)) rfl (fun W hW => by simp [execOp, go_sem, hsz, g1]) ?_
  refine lexb_plain (.int .i64 v) rfl (fun W hW => by simp [execOp, go_sem, hsz, g1, x1 W hW]) ?_
  refine lexb_call (.string Tv) 51 #[.int .i64 v] rfl (fun W hW => by simp [execOp, go_sem, hsz, g1]) (fun W hW => HTv.out W) ?_
  refine lexb_plain (.string (Th ++ Tv)) rfl (fun W hW => by simp [execOp, go_sem, hsz, g1]; omega) ?_
  refine lexb_plain (.pointer (some ⟨w.heap.size, 2, none⟩)) rfl (fun W hW => by simp [execOp, go_sem, hsz, g1]) ?_
  refine lexb_plain (.int .i64 i) rfl (fun W hW => by simp [execOp, go_sem, hsz, g1, x2 W hW]) ?_
  refine lexb_call (.string Ti) 51 #[.int .i64 i] rfl (fun W hW => by simp [execOp, go_sem, hsz, g1]) (fun W hW => HTi.out W) ?_
  refine lexb_plain (.string (Th ++ Tv ++ Ti)) rfl (fun W hW => by simp [execOp, go_sem, hsz, g1]; omega) ?_
  refine lexb_plain (.pointer (some ⟨w.heap.size, 3, none⟩)) rfl (fun W hW => by simp [execOp, go_sem, hsz, g1]) ?_
  refine lexb_plain (.int .i64 l) rfl (fun W hW => by simp [execOp, go_sem, hsz, g1, x3 W hW]) ?_
  refine lexb_call (.string Tl) 51 #[.int .i64 l] rfl (fun W hW => by simp [execOp, go_sem, hsz, g1]) (fun W hW => HTl.out W) ?_
  refine lexb_plain (.string (Th ++ Tv ++ Ti ++ Tl)) rfl (fun W hW => by simp [execOp, go_sem, hsz, g1]; omega) ?_
  refine lexb_plain (.string (Th ++ Tv ++ Ti ++ Tl)) rfl (fun W hW => by simp [execOp, go_sem, hsz, g1]) ?_
  refine lexb_plain (.int .i64 0) rfl (fun W hW => by simp [execOp, go_sem, hsz, g1]) ?_
  intro w' hw'
  have HBw : Hid (Below w.heap.size w w') := (HP.out w' hw').2
  clear hw' x0 x1 x2 x3 HTv HTi HTl hsl
  subst ha0
  clear hsz g1
  go_simp
  go_wp2
  go_ret2
  rw [HE.out]
  exact ⟨rfl, HBw.out⟩
theorem askText_any (k v i l : Int) (w : World) :
    Calls Try.prog 26 #[ask k v i l] w fun r w' => r = .returned (.tuple #[.string (wrT k v i l), .int .i64 (wrC k v i l)]) ∧ Below w.heap.size w w' := by
  unfold wrT wrC
  cases hg : good k v i l with
  | true => rw [if_pos rfl, if_pos rfl]; exact askText_ok k v i l hg w
  | false => rw [if_neg (by simp), if_neg (by simp)]; exact askText_no k v i l hg w
end Go.Proofs.Ytonheibhbilhhaa.setup
