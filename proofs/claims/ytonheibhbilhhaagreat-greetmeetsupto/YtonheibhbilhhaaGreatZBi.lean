/- plugref's setup: what AskText answers. -/
import Derived.Test.YtonheibhbilhhaaGreatZBh
namespace Go.Proofs.YtonheibhbilhhaaGreat.setup
open Go.RowKit Go.PlainAid Go.Proofs.YtonheibhbilhhaaGreat.lane Go.Proofs.YtonheibhbilhhaaGreat.desc
set_option linter.unusedVariables false
set_option linter.unusedSimpArgs false
abbrev heads : ByteArray := ⟨#[128, 0, 2, 1, 2, 3, 0, 5, 128, 6, 0, 9, 128, 8, 163, 0, 35, 3, 35, 1, 33, 255, 161, 254, 33, 10, 33, 9]⟩
theorem head_cut : ∀ j : Fin 14, heads.extract (2 * j.val) (2 * j.val + 2) = strOfNums [col ((j.val : Int) + 1) 0, col ((j.val : Int) + 1) 1] := by decide +kernel
theorem head_run (k : Int) (hk : isK k = true) (W : World) : (Instr.slice 9 (.string heads) (some (.int .i64 (2 * k - 2))) (some (.int .i64 (2 * k))) none).run Tryz.prog W = .ok (.string (strOfNums [col k 0, col k 1])) W := by
 have h := inS_iff.1 hk
 have e := head_cut ⟨(k - 1).toNat, by omega⟩
 simp only [show (((k - 1).toNat : Nat) : Int) + 1 = k by omega] at e
 have := run_slice_string (P := Tryz.prog) (w := W) 9 heads .i64 .i64 (2 * k - 2) (2 * k) Tryz.underlying9 (by omega) (by omega) (by show _ ≤ (28 : Int); omega)
 rw [this, ← e, show (2 * k - 2).toNat = 2 * (k - 1).toNat by omega, show (2 * k).toNat = 2 * (k - 1).toNat + 2 by omega]
theorem ask_text (k v i l : Int) : strOfNums [col k 0, col k 1] ++ strOfNums (wrd v) ++ strOfNums (wrd i) ++ strOfNums (wrd l) = strOfNums (txt k v i l) := by
 rw [← str_append, ← str_append, ← str_append]
 rfl
abbrev BtK (k : Int) (b : Bool) : Prop := ∀ w : World, Calls Tryz.prog 13 #[.int .i64 k, .int .i64 1, .int .i64 14] w fun e w' => e = .returned (.bool b) ∧ w = w'
abbrev AvK (k v : Int) (b : Bool) : Prop := ∀ w : World, Calls Tryz.prog 73 #[.int .i64 k, .int .i64 v] w fun e w' => e = .returned (.bool b) ∧ w = w'
abbrev AiK (k v : Int) (b : Bool) : Prop := ∀ w : World, Calls Tryz.prog 74 #[.int .i64 k, .int .i64 v] w fun e w' => e = .returned (.bool b) ∧ w = w'
abbrev AlK (k v : Int) (b : Bool) : Prop := ∀ w : World, Calls Tryz.prog 75 #[.int .i64 k, .int .i64 v] w fun e w' => e = .returned (.bool b) ∧ w = w'
set_option maxHeartbeats 2000000 in
theorem askText_no (k v i l : Int) (h : good k v i l = false) (w : World) :
  Calls Tryz.prog 36 #[ask k v i l] w fun r w' => r = .returned (.tuple #[.string ⟨#[]⟩, .int .i64 1]) ∧ Below w.heap.size w w' := by
 have hcs : BtK k false ∨ (BtK k true ∧ (AvK k v false ∨ (AvK k v true ∧ (AiK k i false ∨ (AiK k i true ∧ AlK k l false))))) := by
  unfold good at h
  cases hk : isK k with
  | false => exact .inl (between_any k 1 14 false hk)
  | true =>
   rw [hk, Bool.true_and] at h
   refine .inr ⟨between_any k 1 14 true hk, ?_⟩
   have a1 := askValue_any k v hk
   have a2 := askIndex_any k i hk
   have a3 := askLength_any k l hk
   unfold fitB at h
   generalize inS (col k 2) (col k 3) v = b1 at *
   generalize inS (col k 6) (col k 7) l = b3 at *
   generalize (if te k then isE i else inS (col k 4) (col k 5) i) = b2 at *
   cases b1 <;> cases b2 <;> cases b3 <;> simp at h
   all_goals first | exact .inl a1 | exact .inr ⟨a1, .inl a2⟩ | exact .inr ⟨a1, .inr ⟨a2, a3⟩⟩
 clear h
 rcases hcs with h1 | ⟨h1, h2 | ⟨h2, h3 | ⟨h3, h4⟩⟩⟩
 ·have H1 : Hid (BtK k false) := h1
  clear h1
  go_enter Tryz.func36, Tryz.ntmps36
  go_wp2_with fail
  refine (H1.out _).mono ?_
  rintro r u ⟨rfl, rfl⟩
  go_wp2
  go_ret2
  exact ⟨rfl, balloc _ _⟩
 ·have H1 : Hid (BtK k true) := h1
  have H2 : Hid (AvK k v false) := h2
  clear h1 h2
  go_enter Tryz.func36, Tryz.ntmps36
  go_wp2_with fail
  refine (H1.out _).mono ?_
  rintro r u ⟨rfl, rfl⟩
  go_wp2_with fail
  refine (H2.out _).mono ?_
  rintro r u ⟨rfl, rfl⟩
  go_wp2
  go_ret2
  exact ⟨rfl, balloc _ _⟩
 ·have H1 : Hid (BtK k true) := h1
  have H2 : Hid (AvK k v true) := h2
  have H3 : Hid (AiK k i false) := h3
  clear h1 h2 h3
  go_enter Tryz.func36, Tryz.ntmps36
  go_wp2_with fail
  refine (H1.out _).mono ?_
  rintro r u ⟨rfl, rfl⟩
  go_wp2_with fail
  refine (H2.out _).mono ?_
  rintro r u ⟨rfl, rfl⟩
  go_wp2_with fail
  refine (H3.out _).mono ?_
  rintro r u ⟨rfl, rfl⟩
  go_wp2
  go_ret2
  exact ⟨rfl, balloc _ _⟩
 ·have H1 : Hid (BtK k true) := h1
  have H2 : Hid (AvK k v true) := h2
  have H3 : Hid (AiK k i true) := h3
  have H4 : Hid (AlK k l false) := h4
  clear h1 h2 h3 h4
  go_enter Tryz.func36, Tryz.ntmps36
  go_wp2_with fail
  refine (H1.out _).mono ?_
  rintro r u ⟨rfl, rfl⟩
  go_wp2_with fail
  refine (H2.out _).mono ?_
  rintro r u ⟨rfl, rfl⟩
  go_wp2_with fail
  refine (H3.out _).mono ?_
  rintro r u ⟨rfl, rfl⟩
  go_wp2_with fail
  refine (H4.out _).mono ?_
  rintro r u ⟨rfl, rfl⟩
  go_wp2
  go_ret2
  exact ⟨rfl, balloc _ _⟩
set_option maxRecDepth 100000 in
set_option maxHeartbeats 4000000 in
theorem askText_ok (k v i l : Int) (h : good k v i l = true) (w : World) :
  Calls Tryz.prog 36 #[ask k v i l] w fun r w' => r = .returned (.tuple #[.string (strOfNums (txt k v i l)), .int .i64 0]) ∧ Below w.heap.size w w' := by
 obtain ⟨hk, hv, hi, hl⟩ := good_words h
 have hK : isK k = true := inS_iff.2 hk
 have hf : fitB k v i l = true := by unfold good at h; rw [hK, Bool.true_and] at h; exact h
 unfold fitB at hf
 rw [Bool.and_eq_true, Bool.and_eq_true] at hf
 have H1 : Hid (BtK k true) := between_any k 1 14 true hK
 have H2 : Hid (AvK k v true) := by have := askValue_any k v hK; rw [hf.1.2] at this; exact this
 have H3 : Hid (AiK k i true) := by have := askIndex_any k i hK; rw [hf.1.1] at this; exact this
 have H4 : Hid (AlK k l true) := by have := askLength_any k l hK; rw [hf.2] at this; exact this
 have hsl := head_run k hK
 have m1 : IntKind.i64.wrap (2 * k) = 2 * k := by rw [IntKind.wrap_i64]; omega
 have m2 : IntKind.i64.wrap (2 * k - 2) = 2 * k - 2 := by rw [IntKind.wrap_i64]; omega
 have n1 : wrap64 (2 * k) = 2 * k := by unfold wrap64; omega
 have n2 : wrap64 (2 * k - 2) = 2 * k - 2 := by unfold wrap64; omega
 have HTv : Hid (∀ w : World, Calls Tryz.prog 69 #[.int .i64 v] w fun e w' => e = .returned (.string (strOfNums (wrd v))) ∧ Below w.heap.size w w') := twoBytes_any v hv.1 hv.2
 have HTi : Hid (∀ w : World, Calls Tryz.prog 69 #[.int .i64 i] w fun e w' => e = .returned (.string (strOfNums (wrd i))) ∧ Below w.heap.size w w') := twoBytes_any i hi.1 hi.2
 have HTl : Hid (∀ w : World, Calls Tryz.prog 69 #[.int .i64 l] w fun e w' => e = .returned (.string (strOfNums (wrd l))) ∧ Below w.heap.size w w') := twoBytes_any l hl.1 hl.2
 have HE : Hid (strOfNums [col k 0, col k 1] ++ strOfNums (wrd v) ++ strOfNums (wrd i) ++ strOfNums (wrd l) = strOfNums (txt k v i l)) := ask_text k v i l
 have s0 : (strOfNums [col k 0, col k 1]).size = 2 := str_size _
 have s1 : (strOfNums (wrd v)).size = 2 := str_size _
 have s2 : (strOfNums (wrd i)).size = 2 := str_size _
 have s3 : (strOfNums (wrd l)).size = 2 := str_size _
 have HP : Hid (∀ u, Below (w.alloc (askc k v i l)).heap.size (w.alloc (askc k v i l)) u → Ak u w.heap.size k v i l ∧ Below w.heap.size w u) :=
  fun u hu => ⟨(ak_alloc w k v i l).below (by simp) hu, bsq (balloc _ _) hu⟩
 generalize strOfNums (txt k v i l) = R at *
 generalize strOfNums (wrd v) = Tv at *
 generalize strOfNums (wrd i) = Ti at *
 generalize strOfNums (wrd l) = Tl at *
 generalize strOfNums [col k 0, col k 1] = Th at *
 clear h hv hi hl hf hK
 go_enter Tryz.func36, Tryz.ntmps36
 go_wp2_with fail
 refine (H1.out _).mono ?_
 rintro r u ⟨rfl, rfl⟩
 go_wp2_with fail
 refine (H2.out _).mono ?_
 rintro r u ⟨rfl, rfl⟩
 go_wp2_with fail
 refine (H3.out _).mono ?_
 rintro r u ⟨rfl, rfl⟩
 go_wp2_with fail
 refine (H4.out _).mono ?_
 rintro r u ⟨rfl, rfl⟩
 go_wp2_with fail
 obtain ⟨W0, hW0⟩ : ∃ W0, w.alloc (askc k v i l) = W0 := ⟨_, rfl⟩
 rw [hW0] at HP ⊢
 have x0 : ∀ W, Below W0.heap.size W0 W → W.cell? ⟨w.heap.size, 0, none⟩ = some (.int .i64 k) := fun W hW => (HP.out W hW).1.c0
 have x1 : ∀ W, Below W0.heap.size W0 W → W.cell? ⟨w.heap.size, 1, none⟩ = some (.int .i64 v) := fun W hW => (HP.out W hW).1.c1
 have x2 : ∀ W, Below W0.heap.size W0 W → W.cell? ⟨w.heap.size, 2, none⟩ = some (.int .i64 i) := fun W hW => (HP.out W hW).1.c2
 have x3 : ∀ W, Below W0.heap.size W0 W → W.cell? ⟨w.heap.size, 3, none⟩ = some (.int .i64 l) := fun W hW => (HP.out W hW).1.c3
 refine wp_abs (fun a0 => a0.tmps.size = 52 ∧ (∀ h, a0.tmps[1]'h = .pointer (some ⟨w.heap.size, 0, none⟩))) ⟨rfl, fun _ => rfl⟩ ?_
 rintro a0 ⟨hsz, g1⟩ ha0
 refine wp_region_L (Cb W0) (by kernel_rfl) (by kernel_rfl) ((Below.refl _ _).drew) ?_
 refine lexb_plain (.pointer (some ⟨w.heap.size, 0, none⟩)) rfl (fun W hW => by simp [execOp, go_sem, hsz, g1]) ?_
 refine lexb_plain (.int .i64 k) rfl (fun W hW => by simp [execOp, go_sem, hsz, g1, x0 W hW]) ?_
 refine lexb_plain (.int .i64 (2 * k)) rfl (fun W hW => by simp [execOp, go_sem, hsz, g1, m1, n1]) ?_
 refine lexb_plain (.int .i64 (2 * k - 2)) rfl (fun W hW => by simp [execOp, go_sem, hsz, g1, m2, n2]) ?_
 refine lexb_plain (.pointer (some ⟨w.heap.size, 0, none⟩)) rfl (fun W hW => by simp [execOp, go_sem, hsz, g1]) ?_
 refine lexb_plain (.int .i64 k) rfl (fun W hW => by simp [execOp, go_sem, hsz, g1, x0 W hW]) ?_
 refine lexb_plain (.int .i64 (2 * k)) rfl (fun W hW => by simp [execOp, go_sem, hsz, g1, m1, n1]) ?_
 refine lexb_plain (.string Th) rfl (fun W hW => by simp [execOp, go_sem, hsz, g1, hsl]) ?_
 refine lexb_plain (.pointer (some ⟨w.heap.size, 1, none⟩)) rfl (fun W hW => by simp [execOp, go_sem, hsz, g1]) ?_
 refine lexb_plain (.int .i64 v) rfl (fun W hW => by simp [execOp, go_sem, hsz, g1, x1 W hW]) ?_
 refine lexb_call (.string Tv) 69 #[.int .i64 v] rfl (fun W hW => by simp [execOp, go_sem, hsz, g1]) (fun W hW => HTv.out W) ?_
 refine lexb_plain (.string (Th ++ Tv)) rfl (fun W hW => by simp [execOp, go_sem, hsz, g1]; omega) ?_
 refine lexb_plain (.pointer (some ⟨w.heap.size, 2, none⟩)) rfl (fun W hW => by simp [execOp, go_sem, hsz, g1]) ?_
 refine lexb_plain (.int .i64 i) rfl (fun W hW => by simp [execOp, go_sem, hsz, g1, x2 W hW]) ?_
 refine lexb_call (.string Ti) 69 #[.int .i64 i] rfl (fun W hW => by simp [execOp, go_sem, hsz, g1]) (fun W hW => HTi.out W) ?_
 refine lexb_plain (.string (Th ++ Tv ++ Ti)) rfl (fun W hW => by simp [execOp, go_sem, hsz, g1]; omega) ?_
 refine lexb_plain (.pointer (some ⟨w.heap.size, 3, none⟩)) rfl (fun W hW => by simp [execOp, go_sem, hsz, g1]) ?_
 refine lexb_plain (.int .i64 l) rfl (fun W hW => by simp [execOp, go_sem, hsz, g1, x3 W hW]) ?_
 refine lexb_call (.string Tl) 69 #[.int .i64 l] rfl (fun W hW => by simp [execOp, go_sem, hsz, g1]) (fun W hW => HTl.out W) ?_
 refine lexb_plain (.string (Th ++ Tv ++ Ti ++ Tl)) rfl (fun W hW => by simp [execOp, go_sem, hsz, g1]; omega) ?_
 refine lexb_plain (.string (Th ++ Tv ++ Ti ++ Tl)) rfl (fun W hW => by simp [execOp, go_sem, hsz, g1]) ?_
 refine lexb_plain (.int .i64 0) rfl (fun W hW => by simp [execOp, go_sem, hsz, g1]) ?_
 intro w' hw'
 have HBw : Hid (Below w.heap.size w w') := (HP.out w' hw').2
 clear hw' x0 x1 x2 x3 HTv HTi HTl hsl
 subst ha0
 clear hsz g1
 go_simp
 go_wp2
 go_ret2
 rw [HE.out]
 exact ⟨rfl, HBw.out⟩
theorem askText_any (k v i l : Int) (w : World) :
  Calls Tryz.prog 36 #[ask k v i l] w fun r w' => r = .returned (.tuple #[.string (wrT k v i l), .int .i64 (wrC k v i l)]) ∧ Below w.heap.size w w' := by
 unfold wrT wrC
 cases hg : good k v i l with
 | true => rw [if_pos rfl, if_pos rfl]; exact askText_ok k v i l hg w
 | false => rw [if_neg (by simp), if_neg (by simp)]; exact askText_no k v i l hg w
end Go.Proofs.YtonheibhbilhhaaGreat.setup
namespace Go.Proofs.YtonheibhbilhhaaGreat.setup
open Go.RowKit Go.PlainAid Go.Proofs.YtonheibhbilhhaaGreat.lane Go.Proofs.YtonheibhbilhhaaGreat.desc
set_option linter.unusedVariables false
set_option linter.unusedSimpArgs false
theorem eight_split (s : List Int) (hb : Byt s) (h : s.length = 8) : s = s.take 2 ++ wrd (wat s 2) ++ wrd (wat s 4) ++ wrd (wat s 6) := by
 match s, h with
 | [a, b, c, d, e, f, g, i], _ =>
  have hc := hb c (by simp)
  have hd := hb d (by simp)
  have he := hb e (by simp)
  have hf := hb f (by simp)
  have hg := hb g (by simp)
  have hi := hb i (by simp)
  simp [wat, wrd]
  omega
theorem txt_split (k v i l : Int) : txt k v i l = [col k 0, col k 1] ++ wrd v ++ wrd i ++ wrd l := rfl
theorem head_of_hit {s : List Int} {k : Int} (h : hit s k = true) : good k (wat s 2) (wat s 4) (wat s 6) = true ∧ s.take 2 = [col k 0, col k 1] := by
 unfold hit at h
 rw [Bool.and_eq_true, decide_eq_true_iff] at h
 refine ⟨h.1, ?_⟩
 have e := h.2
 conv => lhs; rw [← e]
 rfl
theorem find_of_hit {s : List Int} {k : Int} (h : hit s k = true) (h1 : 1 ≤ k) (h2 : k ≤ 14) : find s 14 1 = k := by
 by_cases c : find s 14 1 = 0
 ·have := find_zero 14 1 (by omega) c k h1 (by omega)
  rw [h] at this; cases this
 ·exact hit_one (find_hit 14 1 (by omega) c).1 h
theorem find_match {s : List Int} (hb : Byt s) (hl : s.length = 8) {k : Int} (h1 : 1 ≤ k) (h2 : k ≤ 14) (hm : s.take 2 = [col k 0, col k 1]) :
  (good k (wat s 2) (wat s 4) (wat s 6) = true → find s 14 1 = k) ∧ (good k (wat s 2) (wat s 4) (wat s 6) = false → find s 14 1 = 0) := by
 constructor
 ·intro hg
  refine find_of_hit ?_ h1 h2
  unfold hit
  rw [hg, Bool.true_and, decide_eq_true_iff, txt_split, ← hm]
  exact (eight_split s hb hl).symm
 ·intro hg
  by_cases c : find s 14 1 = 0
  ·exact c
  ·obtain ⟨hh, g1, g2⟩ := find_hit 14 1 (by omega) c
   obtain ⟨hG, hT⟩ := head_of_hit hh
   rw [hm] at hT
   simp only [List.cons.injEq, and_true] at hT
   have hd := heads_apart ⟨k.toNat, by omega⟩ ⟨(find s 14 1).toNat, by omega⟩ (by simp; omega) (by simp; omega)
   simp only [Int.toNat_of_nonneg (show 0 ≤ k by omega), Int.toNat_of_nonneg (show 0 ≤ find s 14 1 by omega)] at hd
   have := hd hT.1 hT.2
   rw [Fin.mk.injEq] at this
   have e : find s 14 1 = k := by omega
   rw [e, hg] at hG
   cases hG
theorem find_nowhere {s : List Int} (h : ∀ j : Nat, j < 14 → ¬ s.take 2 = [col ((j : Int) + 1) 0, col ((j : Int) + 1) 1]) : find s 14 1 = 0 := by
 by_cases c : find s 14 1 = 0
 ·exact c
 ·obtain ⟨hh, g1, g2⟩ := find_hit 14 1 (by omega) c
  have := h (find s 14 1 - 1).toNat (by omega)
  rw [show (((find s 14 1 - 1).toNat : Nat) : Int) + 1 = find s 14 1 by omega] at this
  exact absurd (head_of_hit hh).2 this
theorem readAsk_short (s : ByteArray) (w : World) (h : s.size < 8) :
  Calls Tryz.prog 38 #[.string s] w fun e w' => e = .returned (.tuple #[ask 0 0 0 0, .int .i64 3]) ∧ Below w.heap.size w w' := by
 have q1 : (s.size : Int) < 8 := by omega
 have q2 : ((s.size : Int) == 8) = false := by simp; omega
 go_enter Tryz.func38, Tryz.ntmps38
 go_wp2
 exact bodyPost_ret (by simp [results, Tryz.results38, go_sem]) rfl ⟨rfl, balloc _ _⟩
theorem readAsk_long (s : ByteArray) (w : World) (h : 8 < s.size) (hm : s.size ≤ maxLen) :
  Calls Tryz.prog 38 #[.string s] w fun e w' => e = .returned (.tuple #[ask 0 0 0 0, .int .i64 4]) ∧ Below w.heap.size w w' := by
 have q1 : ¬ (s.size : Int) < 8 := by omega
 have q2 : ((s.size : Int) == 8) = false := by simp; omega
 unfold maxLen at hm
 go_enter Tryz.func38, Tryz.ntmps38
 go_wp2
 exact bodyPost_ret (by simp [results, Tryz.results38, go_sem]) rfl ⟨rfl, balloc _ _⟩
theorem head_run2 (j : Nat) (hj : j < 14) (W : World) : (Instr.slice 9 (.string heads) (some (.int .i64 (2 * (j : Int)))) (some (.int .i64 (2 * (j : Int) + 2))) none).run Tryz.prog W = .ok (.string (strOfNums [col ((j : Int) + 1) 0, col ((j : Int) + 1) 1])) W := by
 have e := head_cut ⟨j, hj⟩
 simp only at e
 have := run_slice_string (P := Tryz.prog) (w := W) 9 heads .i64 .i64 (2 * (j : Int)) (2 * (j : Int) + 2) Tryz.underlying9 (by omega) (by omega) (by show _ ≤ (28 : Int); omega)
 rw [this, ← e, show (2 * (j : Int)).toNat = 2 * j by omega, show (2 * (j : Int) + 2).toNat = 2 * j + 2 by omega]
set_option maxRecDepth 100000 in
set_option maxHeartbeats 4000000 in
theorem readAsk_eight (s : ByteArray) (w : World) (h8 : s.size = 8) :
  Calls Tryz.prog 38 #[.string s] w fun e w' => e = .returned (.tuple #[rdA s, .int .i64 (rdC s)]) ∧ Below w.heap.size w w' := by
 have hm : s.size ≤ maxLen := by rw [h8]; unfold maxLen; omega
 have HW2 : Hid (∀ w : World, Calls Tryz.prog 78 #[.string s, .int .i64 2] w fun e w' => e = .returned (.int .i64 (wat (nums s) 2)) ∧ ∃ q, w' = w.drewN q) := fun w => by rw [← wd_wat s h8 2 (by omega)]; exact wordAt_any s 2 w (by omega) hm
 have HW4 : Hid (∀ w : World, Calls Tryz.prog 78 #[.string s, .int .i64 4] w fun e w' => e = .returned (.int .i64 (wat (nums s) 4)) ∧ ∃ q, w' = w.drewN q) := fun w => by rw [← wd_wat s h8 4 (by omega)]; exact wordAt_any s 4 w (by omega) hm
 have HW6 : Hid (∀ w : World, Calls Tryz.prog 78 #[.string s, .int .i64 6] w fun e w' => e = .returned (.int .i64 (wat (nums s) 6)) ∧ ∃ q, w' = w.drewN q) := fun w => by rw [← wd_wat s h8 6 (by omega)]; exact wordAt_any s 6 w (by omega) hm
 have HPr : Hid (∀ (j : Nat) (w : World), j < 14 → Calls Tryz.prog 77 #[.string s, .string (strOfNums [col ((j : Int) + 1) 0, col ((j : Int) + 1) 1])] w fun e w' => e = .returned (.bool (decide ((nums s).take 2 = [col ((j : Int) + 1) 0, col ((j : Int) + 1) 1]))) ∧ w = w') := by
  intro j w hj
  have h := hasPrefix_any s (strOfNums [col ((j : Int) + 1) 0, col ((j : Int) + 1) 1]) w hm (by rw [str_size]; unfold maxLen; simp)
  have c0 : 0 ≤ col ((j : Int) + 1) 0 ∧ col ((j : Int) + 1) 0 ≤ 255 := col_head ⟨j + 1, by omega⟩ ⟨0, by omega⟩
  have c1 : 0 ≤ col ((j : Int) + 1) 1 ∧ col ((j : Int) + 1) 1 ≤ 255 := col_head ⟨j + 1, by omega⟩ ⟨1, by omega⟩
  rw [str_size, nums_str _ (by intro x hx; simp at hx; rcases hx with rfl | rfl; exact c0; exact c1)] at h
  exact h
 have HT : Hid (∀ (k : Int) (w : World), Calls Tryz.prog 36 #[ask k (wat (nums s) 2) (wat (nums s) 4) (wat (nums s) 6)] w fun r w' => r = .returned (.tuple #[.string (wrT k (wat (nums s) 2) (wat (nums s) 4) (wat (nums s) 6)), .int .i64 (wrC k (wat (nums s) 2) (wat (nums s) 4) (wat (nums s) 6))]) ∧ Below w.heap.size w w') := fun k w => askText_any k _ _ _ w
 have HM : Hid (∀ j : Nat, j < 14 → (nums s).take 2 = [col ((j : Int) + 1) 0, col ((j : Int) + 1) 1] → (wrC ((j : Int) + 1) (wat (nums s) 2) (wat (nums s) 4) (wat (nums s) 6) = 0 ∧ find (nums s) 14 1 = (j : Int) + 1) ∨ (wrC ((j : Int) + 1) (wat (nums s) 2) (wat (nums s) 4) (wat (nums s) 6) = 1 ∧ find (nums s) 14 1 = 0)) := by
  intro j hj hmt
  obtain ⟨f1, f2⟩ := find_match (nums_byt s) (by rw [nums_length]; exact h8) (k := (j : Int) + 1) (by omega) (by omega) hmt
  unfold wrC
  cases hg : good ((j : Int) + 1) (wat (nums s) 2) (wat (nums s) 4) (wat (nums s) 6) with
  | true => exact .inl ⟨rfl, f1 hg⟩
  | false => exact .inr ⟨rfl, f2 hg⟩
 have HE : Hid (∀ k : Int, k ≠ 0 → find (nums s) 14 1 = k → Ending.returned (.tuple #[ask k (wat (nums s) 2) (wat (nums s) 4) (wat (nums s) 6), .int .i64 0]) = .returned (.tuple #[rdA s, .int .i64 (rdC s)])) := by
  intro k hk he
  unfold rdA rdC rdK
  rw [he, if_neg hk, if_neg hk]
 have HN : Hid (find (nums s) 14 1 = 0 → Ending.returned (.tuple #[ask 0 0 0 0, .int .i64 12]) = .returned (.tuple #[rdA s, .int .i64 (rdC s)])) := by
  intro he
  unfold rdA rdC rdK
  rw [he, if_pos rfl, if_pos rfl]
 have q2 : ((s.size : Int) != 8) = false := by simp; omega
 clear h8 hm
 generalize rdA s = ra at *
 generalize rdC s = rc at *
 generalize wat (nums s) 2 = v at *
 generalize wat (nums s) 4 = i at *
 generalize wat (nums s) 6 = l at *
 go_enter Tryz.func38, Tryz.ntmps38
 go_wp2
 obtain ⟨W0, hW0⟩ : ∃ W0, w.alloc (askc 0 0 0 0) = W0 := ⟨_, rfl⟩
 have HB0 : Hid (Below w.heap.size w W0) := by show Below _ _ _; rw [← hW0]; exact balloc _ _
 have HR0 : Hid (W0.heap[w.heap.size]? = some (askc 0 0 0 0)) := by show _ = _; rw [← hW0]; exact (MapKept.heap_alloc w _).1
 try rw [hW0]
 clear hW0
 go_loopw [4] (fun kv wr => ∃ j : Nat, j ≤ 14 ∧ kv = .int .i64 (2 * (j : Int)) ∧ wr = W0 ∧ Hid (∀ i : Nat, i < j → ¬ (nums s).take 2 = [col ((i : Int) + 1) 0, col ((i : Int) + 1) 1])) (fun kv _ => 28 - (intOf kv).toNat)
 case atStart => exact ⟨0, by omega, rfl, rfl, fun i hi => absurd hi (Nat.not_lt_zero _)⟩
 case round =>
  obtain ⟨j, hj, rfl, rfl, HI⟩ := hrel
  by_cases hlt : j < 14
  ·have hsl := head_run2 j hlt
   have HPj := HPr.out j
   have HPj : Hid (∀ w : World, Calls Tryz.prog 77 #[.string s, .string (strOfNums [col ((j : Int) + 1) 0, col ((j : Int) + 1) 1])] w fun e w' => e = .returned (.bool (decide ((nums s).take 2 = [col ((j : Int) + 1) 0, col ((j : Int) + 1) 1]))) ∧ w = w') := fun w => HPj w hlt
   have hcs : (decide ((nums s).take 2 = [col ((j : Int) + 1) 0, col ((j : Int) + 1) 1]) = false ∧ Hid (∀ i : Nat, i < j + 1 → ¬ (nums s).take 2 = [col ((i : Int) + 1) 0, col ((i : Int) + 1) 1])) ∨
     (decide ((nums s).take 2 = [col ((j : Int) + 1) 0, col ((j : Int) + 1) 1]) = true ∧ Hid ((wrC ((j : Int) + 1) v i l = 0 ∧ find (nums s) 14 1 = (j : Int) + 1) ∨ (wrC ((j : Int) + 1) v i l = 1 ∧ find (nums s) 14 1 = 0))) := by
    by_cases hmt : (nums s).take 2 = [col ((j : Int) + 1) 0, col ((j : Int) + 1) 1]
    ·exact .inr ⟨decide_eq_true hmt, HM.out j hlt hmt⟩
    ·refine .inl ⟨decide_eq_false hmt, fun i hi => ?_⟩
     by_cases e : i = j
     ·rw [e]; exact hmt
     ·exact HI.out i (by omega)
   generalize decide ((nums s).take 2 = [col ((j : Int) + 1) 0, col ((j : Int) + 1) 1]) = bm at *
   generalize strOfNums [col ((j : Int) + 1) 0, col ((j : Int) + 1) 1] = Th at *
   go_wp2_with fail
   refine (HPj.out _).mono ?_
   rintro r u ⟨rfl, rfl⟩
   clear hsl HPj
   rcases hcs with ⟨rfl, HI2⟩ | ⟨rfl, HC⟩
   ·go_wp2
    go_roundw
    case rel => exact ⟨j + 1, by omega, by go_num, by first | rfl | trivial, HI2.out⟩
    case measure => simp [intOf]; omega
   ·go_wp2_with fail
    refine (HW2.out _).mono ?_
    rintro r u ⟨rfl, p2, rfl⟩
    go_wp2_with fail
    refine (HW4.out _).mono ?_
    rintro r u ⟨rfl, p4, rfl⟩
    go_wp2_with fail
    refine (HW6.out _).mono ?_
    rintro r u ⟨rfl, p6, rfl⟩
    obtain ⟨W1, hW1⟩ : ∃ W1, (wr.drewN (p2 + p4)).drewN p6 = W1 := ⟨_, rfl⟩
    have HB1 : Hid (Below w.heap.size w W1) := by show Below _ _ _; rw [← hW1]; exact below_drewN (below_drewN HB0.out _) _
    have HR1 : Hid (W1.heap[w.heap.size]? = some (askc 0 0 0 0)) := by show _ = _; rw [← hW1]; exact HR0.out
    rw [hW1]
    clear hW1
    go_wp2_with fail
    refine (HT.out ((j : Int) + 1) _).mono ?_
    rintro r u ⟨rfl, hbu⟩
    have HBu : Hid (Below w.heap.size w u) := bsq (bsq HB1.out (balloc _ _)) hbu
    have HRu : Hid (u.heap[w.heap.size]? = some (askc 0 0 0 0)) := res_below (res_below HR1.out (balloc _ _)) hbu
    obtain ⟨hzX, c0, c1, c2, c3⟩ := (ak_alloc W1 ((j : Int) + 1) v i l).below (by simp) hbu
    obtain ⟨⟨hzR, d0, d1, d2, d3⟩, hfs⟩ := box4 HRu.out
    have g0 := hfs 0
    have g1 := hfs 1
    have g2 := hfs 2
    have g3 := hfs 3
    clear hfs hbu
    generalize wrT ((j : Int) + 1) v i l = TT at *
    generalize wrC ((j : Int) + 1) v i l = cc at *
    rcases HC.out with ⟨rfl, hf⟩ | ⟨rfl, hf⟩
    ·have HH : Hid (find (nums s) 14 1 = (j : Int) + 1) := hf
     have hch := ch4 (k' := (j : Int) + 1) (v' := v) (i' := i) (l' := l) HRu.out
     have hBf := bch4 (k' := (j : Int) + 1) (v' := v) (i' := i) (l' := l) HBu.out
     obtain ⟨vf, hvf⟩ : ∃ vf, ((((u.setCell ⟨w.heap.size, 0, none⟩ (.int .i64 ((j : Int) + 1))).setCell ⟨w.heap.size, 1, none⟩ (.int .i64 v)).setCell ⟨w.heap.size, 2, none⟩ (.int .i64 i)).setCell ⟨w.heap.size, 3, none⟩ (.int .i64 l)) = vf := ⟨_, rfl⟩
     rw [hvf] at hch hBf
     clear hf
     go_wp2
     try rw [hvf]
     obtain ⟨⟨hzf, r0, r1, r2, r3⟩, _⟩ := box4 hch
     exact bodyPost_ret (v := .tuple #[ask ((j : Int) + 1) v i l, .int .i64 0]) (by simp [results, Tryz.results38, go_sem, hzf, r0, r1, r2, r3]) rfl ⟨HE.out ((j : Int) + 1) (by omega) HH.out, hBf⟩
    ·have HH : Hid (find (nums s) 14 1 = 0) := hf
     have hch := ch4 (k' := 0) (v' := 0) (i' := 0) (l' := 0) HRu.out
     have hBf := bch4 (k' := 0) (v' := 0) (i' := 0) (l' := 0) HBu.out
     obtain ⟨vf, hvf⟩ : ∃ vf, ((((u.setCell ⟨w.heap.size, 0, none⟩ (.int .i64 0)).setCell ⟨w.heap.size, 1, none⟩ (.int .i64 0)).setCell ⟨w.heap.size, 2, none⟩ (.int .i64 0)).setCell ⟨w.heap.size, 3, none⟩ (.int .i64 0)) = vf := ⟨_, rfl⟩
     rw [hvf] at hch hBf
     clear hf
     go_wp2
     try rw [hvf]
     obtain ⟨⟨hzf, r0, r1, r2, r3⟩, _⟩ := box4 hch
     exact bodyPost_ret (v := .tuple #[ask 0 0 0 0, .int .i64 12]) (by simp [results, Tryz.results38, go_sem, hzf, r0, r1, r2, r3]) rfl ⟨HN.out HH.out, hBf⟩
  ·have HH : Hid (find (nums s) 14 1 = 0) := find_nowhere fun i hi => HI.out i (by omega)
   obtain ⟨⟨hzR, d0, d1, d2, d3⟩, hfs⟩ := box4 HR0.out
   have g0 := hfs 0
   have g1 := hfs 1
   have g2 := hfs 2
   have g3 := hfs 3
   have hch := ch4 (k' := 0) (v' := 0) (i' := 0) (l' := 0) HR0.out
   have hBf := bch4 (k' := 0) (v' := 0) (i' := 0) (l' := 0) HB0.out
   obtain ⟨vf, hvf⟩ : ∃ vf, ((((wr.setCell ⟨w.heap.size, 0, none⟩ (.int .i64 0)).setCell ⟨w.heap.size, 1, none⟩ (.int .i64 0)).setCell ⟨w.heap.size, 2, none⟩ (.int .i64 0)).setCell ⟨w.heap.size, 3, none⟩ (.int .i64 0)) = vf := ⟨_, rfl⟩
   rw [hvf] at hch hBf
   clear hfs
   go_wp2
   try rw [hvf]
   obtain ⟨⟨hzf, r0, r1, r2, r3⟩, _⟩ := box4 hch
   exact bodyPost_ret (v := .tuple #[ask 0 0 0 0, .int .i64 12]) (by simp [results, Tryz.results38, go_sem, hzf, r0, r1, r2, r3]) rfl ⟨HN.out HH.out, hBf⟩
theorem readAsk_any (s : ByteArray) (hm : s.size ≤ maxLen) (w : World) :
  Calls Tryz.prog 38 #[.string s] w fun e w' => e = .returned (.tuple #[ask (rK s) (rN s 2) (rN s 4) (rN s 6), .int .i64 (rC s)]) ∧ Below w.heap.size w w' := by
 rw [← rA_eq]
 unfold rA rC
 by_cases h : s.size < 8
 ·rw [if_neg (by omega), if_pos h]; exact readAsk_short s w h
 ·rw [if_neg h]
  by_cases h8 : s.size = 8
  ·rw [if_pos h8, if_pos h8]; exact readAsk_eight s w h8
  ·rw [if_neg h8, if_neg h8]; exact readAsk_long s w (by omega) hm
end Go.Proofs.YtonheibhbilhhaaGreat.setup
