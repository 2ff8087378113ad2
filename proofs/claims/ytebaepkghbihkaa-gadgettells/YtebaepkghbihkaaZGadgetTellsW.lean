/- GadgetTells: the walk. -/
import Derived.Test.YtebaepkghbihkaaZGadN
import Derived.Test.YtebaepkghbihkaaZGadY
import Derived.Test.YtebaepkghbihkaaZBh
import Derived.Test.YtebaepkghbihkaaZBd
import Derived.Test.YtebaepkghbihkaaZBe
import Derived.Test.YtebaepkghbihkaaZBc
namespace Go.Proofs.Ytebaepkghbihkaa.gadgetTells
open Go.RowKit Go.PlainAid Go.Proofs.Ytebaepkghbihkaa.desc Go.Proofs.Ytebaepkghbihkaa.gadget
open Go.Proofs.Ytebaepkghbihkaa.setup (rK rN rC askc good wrT wrC)
set_option linter.unusedVariables false
set_option linter.unusedSimpArgs false
theorem str8 (k v i l : Int) : (strOfNums (setup.txt k v i l)).size = 8 := by rw [lane.str_size]; rfl
theorem wr_small (k v i l : Int) : (wrT k v i l).size ≤ maxLen := by
  unfold wrT
  split
  · rw [str8]; unfold maxLen; omega
  · exact Nat.zero_le _
theorem n_cases {w : World} {T : List (List Int)} {ta : Option Addr} {tn tcp : Nat} (h : Rts w (.slice ta tn tcp) T) (n : Int) :
    n < 1 ∨ (tn : Int) < n ∨ ∃ (k : Nat) (t : List Int), n = (k : Int) + 1 ∧ k < tn ∧ T[k]? = some t := by
  obtain ⟨a, c, q, q1, q2, _⟩ := h.cell
  injection q with _ q _
  unfold maxLen at q2
  by_cases h1 : n < 1
  · exact .inl h1
  by_cases h2 : (tn : Int) < n
  · exact .inr (.inl h2)
  refine .inr (.inr ⟨(n - 1).toNat, T[(n - 1).toNat]'(by omega), by omega, by omega, List.getElem?_eq_getElem _⟩)
theorem n_wrap {n : Int} {k : Nat} (h : n = (k : Int) + 1) (h2 : 769 + (k : Int) ≤ 65535) : IntKind.i64.wrap (768 + n) = 768 + n ∧ IntKind.i64.wrap (n - 1) = n - 1 := by
  constructor <;> (rw [IntKind.wrap_i64]; omega)
theorem n_less {n : Int} {k : Nat} (h : n = (k : Int) + 1) (h2 : 769 + (k : Int) ≤ 65535) : n - 1 = (k : Int) ∧ IntKind.i64.wrap (k : Int) = (k : Int) := by
  refine ⟨by omega, ?_⟩
  rw [IntKind.wrap_i64]; omega
theorem n_val {n : Int} {k : Nat} (h : n = (k : Int) + 1) : 769 + (k : Int) = 768 + n := by omega
theorem k_le {d : Dv} {c : Cf} {T : List (List Int)} (h : chkS d c T = 0) (k : Nat) (t : List Int) (ht : T[k]? = some t) : 769 + (k : Int) ≤ 65535 := by
  have := (List.getElem?_eq_some_iff.1 ht).1
  have h8 := (chkS_ok h).2.2.2.1
  omega
set_option maxRecDepth 100000 in
set_option maxHeartbeats 16000000 in
theorem walk (d : Dv) (c : Cf) (L : FL) (v : Value) (T : List (List Int)) (tv : Value) (s a h : Int) (n : Int) (wn : (Lit.int .i64 n).wf = true) (w : World) (hs : Shr w c L v T tv) :
    Calls Try.prog 7 #[shV d c v tv, gdV s a h, .int .i64 n] w fun e w' => e = .returned (.bool true) ∧ Below w.heap.size w w' := by
  obtain ⟨w1, hw1, hS1, hb1⟩ := ShC.named w d c v tv
  obtain ⟨w2, hw2, hG2, hb2⟩ := gd_named w1 s a h
  have z1 : w.heap.size < w1.heap.size := (Array.getElem?_eq_some_iff.1 hS1).1
  have z2 : w1.heap.size < w2.heap.size := (Array.getElem?_eq_some_iff.1 hG2).1
  have HS : Hid (∀ u : World, Below w2.heap.size w2 u → u.heap[w.heap.size]? = some (shO d c v tv)) := fun u hu => keep (keep hS1 hb2) hu
  have HG : Hid (∀ u : World, Below w2.heap.size w2 u → u.heap[w1.heap.size]? = some (gdO s a h)) := fun u hu => keep hG2 hu
  have HB2 : Hid (Below w.heap.size w w2) := bsq hb1 hb2
  have HSr : Hid (∀ u : World, Below w2.heap.size w2 u → Shr u c L v T tv) := fun u hu => hs.below (bsq hb1 (bsq hb2 hu))
  obtain ⟨fa, fn, fcp, rfl⟩ : ∃ a n c, v = .slice a n c := by obtain ⟨a, c, h, _⟩ := hs.rc.fs.row; exact ⟨_, _, _, h⟩
  obtain ⟨ta, tn, tcp, rfl⟩ : ∃ a n c, tv = .slice a n c := by obtain ⟨a, c, h, _⟩ := hs.tx; exact ⟨_, _, _, h⟩
  have HL : Hid (∀ u : World, Calls Try.prog 13 #[] u fun e w' => e = .returned (.bool true) ∧ Below u.heap.size u w') := gadgetLives_any
  have HCk : Hid (∀ u : World, Below w2.heap.size w2 u → Calls Try.prog 9 #[shV d c (.slice fa fn fcp) (.slice ta tn tcp)] u fun e w' => e = .returned (.int .i64 (chkS d c T)) ∧ Below u.heap.size u w') := fun u hu => check_any d c L _ T _ u (HSr.out u hu)
  have HGd : Hid (∀ u : World, Calls Try.prog 15 #[gdV s a h] u fun e w' => e = .returned (.bool (gR s a h)) ∧ Below u.heap.size u w') := gadget_any s a h
  have HBw2 : Hid (Below w2.heap.size w2 w2) := Below.refl _ _
  have HWn : Hid ((Lit.int .i64 n).wf = true) := wn
  have HTt : Hid (∀ u : World, Below w2.heap.size w2 u → Rts u (.slice ta tn tcp) T) := fun u hu => (HSr.out u hu).tx
  have HN : Hid (n < 1 ∨ (tn : Int) < n ∨ ∃ (k : Nat) (t : List Int), n = (k : Int) + 1 ∧ k < tn ∧ T[k]? = some t) := n_cases hs.tx n
  have HBb : Hid (∀ f ∈ c.fs, BB f.ex) := by
    intro f hf
    rw [← hs.rc.eq] at hf
    obtain ⟨q, hq, rfl⟩ := List.mem_map.1 hf
    exact (hs.rc.fs.all q hq).bb
  have hmA : (wrT 5 256 0 65535).size ≤ maxLen := wr_small _ _ _ _
  have HCA : Hid (∀ u : World, Below w2.heap.size w2 u → Calls Try.prog 11 #[shV d c (.slice fa fn fcp) (.slice ta tn tcp), gdV s a h, .string (wrT 5 256 0 65535)] u fun e w' => e = .returned (ansV (ctl d c T s a h (wrT 5 256 0 65535))) ∧ Below u.heap.size u w') := fun u hu => control_any d c L _ T _ s a h _ u (HSr.out u hu) hmA
  obtain ⟨A, hA⟩ : ∃ Y, ctl d c T s a h (wrT 5 256 0 65535) = Y := ⟨_, rfl⟩
  have HYA : Hid (ctl d c T s a h (wrT 5 256 0 65535) = A) := hA
  rw [hA] at HCA
  clear hA hmA
  clear hs hb1 hb2 hS1 hG2 wn
  go_enter Try.func7, Try.ntmps7
  go_upto_region 1 with (fail)
  go_cut [0, 1, 7, 8, 9] from 19 (fun _ _ pv tw cv wx => ∃ X : Nat, pv = .pointer (some ⟨X, 0, none⟩) ∧ tw = .string A.t ∧ cv = .int .i64 A.e ∧ Hid (Below w2.heap.size w2 wx ∧ wx.heap[X]? = some (gdO A.s A.a A.h)))
  case first =>
    refine wp_abs (fun a0 => a0.tmps.size = 131 ∧ (∀ h, a0.tmps[3]'h = .pointer (some ⟨w.heap.size, 0, none⟩)) ∧ (∀ h, a0.tmps[4]'h = .pointer (some ⟨w1.heap.size, 0, none⟩))) ⟨rfl, fun _ => rfl, fun _ => rfl⟩ ?_
    rintro a0 ⟨hsz, s3, s4⟩ ha0
    refine wp_region_held (S := fun W => Below w2.heap.size w2 W) (by kernel_rfl) ?_
    have hS0 : Below w2.heap.size w2 w2.drew := (Below.refl _ _).drew
    refine h_take (i := 0) (shV d c (.slice fa fn fcp) (.slice ta tn tcp)) rfl (by kernel_rfl) (by kernel_rfl) (by kernel_rfl) (fun _ _ _ h => h) rfl hS0 (fun W hW => by have h := run_sheet (HS.out W (bsq HBw2.out hW)); simp only [execOp]; simp only [Act.eval]; simp [Act.put, hsz, s3, s4, h]) ?_
    refine h_take (i := 1) (gdV s a h) rfl (by kernel_rfl) (by kernel_rfl) (by kernel_rfl) (fun _ _ _ h => h) rfl hS0 (fun W hW => by obtain ⟨⟨zg, g0, g1, g2⟩, _⟩ := gd_box (HG.out W (bsq HBw2.out hW)); simp [execOp, go_sem, Act.put, hsz, s3, s4, g0, g1, g2]) ?_
    refine h_two 2 8 (by kernel_rfl) ?_ ?_
    · refine o_call 16 #[.int .i64 5, .int .i64 256, .int .i64 0, .int .i64 65535] rfl rfl (by simp [execOp, go_sem, Act.put, hsz, s3, s4]) ((asked_any 5 256 0 65535 (by omega) _).mono ?_)
      rintro e ua ⟨rfl, hba⟩
      have hS1 : Below w2.heap.size w2 ua := bsq hS0 hba
      refine ⟨_, rfl, hS1, ?_⟩
      refine h_two 3 8 (by kernel_rfl) ?_ ?_
      · refine o_call 11 #[shV d c (.slice fa fn fcp) (.slice ta tn tcp), gdV s a h, .string (wrT 5 256 0 65535)] rfl rfl (by simp [execOp, go_sem, Act.put, hsz, s3, s4]) ((HCA.out _ (bsq HBw2.out hS1)).mono ?_)
        rintro e ub ⟨rfl, hbb⟩
        have hS2 : Below w2.heap.size w2 ub := bsq hS1 hbb
        refine ⟨_, rfl, hS2, ?_⟩
        refine h_take (i := 4) (ansV A) rfl (by kernel_rfl) (by kernel_rfl) (by kernel_rfl) (fun _ _ _ h => h) rfl hS2 (fun W hW => by simp [execOp, go_sem, Act.put, hsz, s3, s4]) ?_
        refine h_take (i := 5) (gdV A.s A.a A.h) rfl (by kernel_rfl) (by kernel_rfl) (by kernel_rfl) (fun _ _ _ h => h) rfl hS2 (fun W hW => by simp [execOp, go_sem, Act.put, hsz, s3, s4]) ?_
        refine h_take (i := 6) (.string A.t) rfl (by kernel_rfl) (by kernel_rfl) (by kernel_rfl) (fun _ _ _ h => h) rfl hS2 (fun W hW => by simp [execOp, go_sem, Act.put, hsz, s3, s4]) ?_
        refine h_take (i := 7) (.int .i64 A.e) rfl (by kernel_rfl) (by kernel_rfl) (by kernel_rfl) (fun _ _ _ h => h) rfl hS2 (fun W hW => by simp [execOp, go_sem, Act.put, hsz, s3, s4]) ?_
        refine h_value (i := 8) (w' := ub.alloc (gdO 0 0 0)) (.pointer (some ⟨ub.heap.size, 0, none⟩)) rfl (by kernel_rfl) rfl (by simp [execOp, go_sem, Act.put, hsz, s3, s4]) (bsq hS2 (balloc _ _)) ?_
        have hX0 : w2.heap.size ≤ ub.heap.size := hS2.size
        have hX := (MapKept.heap_alloc ub (gdO 0 0 0)).1
        have hS3 : Below w2.heap.size w2 (ub.alloc (gdO 0 0 0)) := bsq hS2 (balloc _ _)
        generalize ub.alloc (gdO 0 0 0) = ug at *
        obtain ⟨⟨zz, q0, q1, q2⟩, f0, f1, f2⟩ := gd_box hX
        obtain ⟨uf, huf, hXf, hBf⟩ := gd_put ug ub.heap.size 0 0 0 A.s A.a A.h hX
        have hSf : Below w2.heap.size w2 uf := hBf _ _ hX0 hS3
        refine h_skip (i := 9) (w' := uf) rfl (by kernel_rfl) rfl (by rw [← huf]; simp [execOp, go_sem, Act.put, hsz, s3, s4, zz, q0, q1, q2, f0, f1, f2]) hSf ?_
        refine h_value (i := 10) (w' := uf) (.string A.t) rfl (by kernel_rfl) rfl (by simp [execOp, go_sem, Act.put, hsz, s3, s4]) hSf ?_
        refine h_value (i := 11) (w' := uf) (.int .i64 A.e) rfl (by kernel_rfl) rfl (by simp [execOp, go_sem, Act.put, hsz, s3, s4]) hSf ?_
        refine wpAnyH_done (by kernel_rfl) ?_ _
        generalize ub.heap.size = XX at *
        subst ha0
        clear hsz s3 s4
        clear huf hBf zz q0 q1 q2 f0 f1 f2
        go_simp
        go_wp2_with fail
        go_meet
        case rel => exact ⟨XX, rfl, rfl, rfl, hSf, hXf⟩
      · refine o_value (w' := ua.alloc (gdO 0 0 0)) (.pointer (some ⟨ua.heap.size, 0, none⟩)) rfl rfl (by simp [execOp, go_sem, Act.put, hsz, s3, s4]) ?_
        have hX0 : w2.heap.size ≤ ua.heap.size := hS1.size
        have hX := (MapKept.heap_alloc ua (gdO 0 0 0)).1
        have hS3 : Below w2.heap.size w2 (ua.alloc (gdO 0 0 0)) := bsq hS1 (balloc _ _)
        generalize ua.alloc (gdO 0 0 0) = ug at *
        refine ⟨hS3, ?_⟩
        refine wpAnyH_all (rs := [3]) (by kernel_rfl) (by simp) (fun k hk => ?_)
        obtain rfl : k = 3 := by simpa using hk
        refine o_call 11 #[shV d c (.slice fa fn fcp) (.slice ta tn tcp), gdV s a h, .string (wrT 5 256 0 65535)] rfl rfl (by simp [execOp, go_sem, Act.put, hsz, s3, s4]) ((HCA.out _ (bsq HBw2.out hS3)).mono ?_)
        rintro e ub ⟨rfl, hbb⟩
        have hS2 : Below w2.heap.size w2 ub := bsq hS3 hbb
        have hX := keep hX hbb
        refine ⟨_, rfl, hS2, ?_⟩
        refine h_take (i := 4) (ansV A) rfl (by kernel_rfl) (by kernel_rfl) (by kernel_rfl) (fun _ _ _ h => h) rfl hS2 (fun W hW => by simp [execOp, go_sem, Act.put, hsz, s3, s4]) ?_
        refine h_take (i := 5) (gdV A.s A.a A.h) rfl (by kernel_rfl) (by kernel_rfl) (by kernel_rfl) (fun _ _ _ h => h) rfl hS2 (fun W hW => by simp [execOp, go_sem, Act.put, hsz, s3, s4]) ?_
        refine h_take (i := 6) (.string A.t) rfl (by kernel_rfl) (by kernel_rfl) (by kernel_rfl) (fun _ _ _ h => h) rfl hS2 (fun W hW => by simp [execOp, go_sem, Act.put, hsz, s3, s4]) ?_
        refine h_take (i := 7) (.int .i64 A.e) rfl (by kernel_rfl) (by kernel_rfl) (by kernel_rfl) (fun _ _ _ h => h) rfl hS2 (fun W hW => by simp [execOp, go_sem, Act.put, hsz, s3, s4]) ?_
        obtain ⟨⟨zz, q0, q1, q2⟩, f0, f1, f2⟩ := gd_box hX
        obtain ⟨uf, huf, hXf, hBf⟩ := gd_put ub ua.heap.size 0 0 0 A.s A.a A.h hX
        have hSf : Below w2.heap.size w2 uf := hBf _ _ hX0 hS2
        refine h_skip (i := 9) (w' := uf) rfl (by kernel_rfl) rfl (by rw [← huf]; simp [execOp, go_sem, Act.put, hsz, s3, s4, zz, q0, q1, q2, f0, f1, f2]) hSf ?_
        refine h_value (i := 10) (w' := uf) (.string A.t) rfl (by kernel_rfl) rfl (by simp [execOp, go_sem, Act.put, hsz, s3, s4]) hSf ?_
        refine h_value (i := 11) (w' := uf) (.int .i64 A.e) rfl (by kernel_rfl) rfl (by simp [execOp, go_sem, Act.put, hsz, s3, s4]) hSf ?_
        refine wpAnyH_done (by kernel_rfl) ?_ _
        generalize ua.heap.size = XX at *
        subst ha0
        clear hsz s3 s4
        clear huf hBf zz q0 q1 q2 f0 f1 f2
        go_simp
        go_wp2_with fail
        go_meet
        case rel => exact ⟨XX, rfl, rfl, rfl, hSf, hXf⟩
    · refine o_value (w' := w2.drew.alloc (gdO 0 0 0)) (.pointer (some ⟨w2.drew.heap.size, 0, none⟩)) rfl rfl (by simp [execOp, go_sem, Act.put, hsz, s3, s4]) ?_
      have hX0 : w2.heap.size ≤ w2.drew.heap.size := Nat.le_refl _
      have hX := (MapKept.heap_alloc w2.drew (gdO 0 0 0)).1
      have hS3 : Below w2.heap.size w2 (w2.drew.alloc (gdO 0 0 0)) := bsq hS0 (balloc _ _)
      generalize w2.drew.heap.size = XB at *
      generalize w2.drew.alloc (gdO 0 0 0) = ug at *
      refine ⟨hS3, ?_⟩
      refine wpAnyH_all (rs := [2]) (by kernel_rfl) (by simp) (fun k hk => ?_)
      obtain rfl : k = 2 := by simpa using hk
      refine o_call 16 #[.int .i64 5, .int .i64 256, .int .i64 0, .int .i64 65535] rfl rfl (by simp [execOp, go_sem, Act.put, hsz, s3, s4]) ((asked_any 5 256 0 65535 (by omega) _).mono ?_)
      rintro e ua ⟨rfl, hba⟩
      have hS1 : Below w2.heap.size w2 ua := bsq hS3 hba
      have hX := keep hX hba
      refine ⟨_, rfl, hS1, ?_⟩
      refine wpAnyH_all (rs := [3]) (by kernel_rfl) (by simp) (fun k hk => ?_)
      obtain rfl : k = 3 := by simpa using hk
      refine o_call 11 #[shV d c (.slice fa fn fcp) (.slice ta tn tcp), gdV s a h, .string (wrT 5 256 0 65535)] rfl rfl (by simp [execOp, go_sem, Act.put, hsz, s3, s4]) ((HCA.out _ (bsq HBw2.out hS1)).mono ?_)
      rintro e ub ⟨rfl, hbb⟩
      have hS2 : Below w2.heap.size w2 ub := bsq hS1 hbb
      have hX := keep hX hbb
      refine ⟨_, rfl, hS2, ?_⟩
      refine h_take (i := 4) (ansV A) rfl (by kernel_rfl) (by kernel_rfl) (by kernel_rfl) (fun _ _ _ h => h) rfl hS2 (fun W hW => by simp [execOp, go_sem, Act.put, hsz, s3, s4]) ?_
      refine h_take (i := 5) (gdV A.s A.a A.h) rfl (by kernel_rfl) (by kernel_rfl) (by kernel_rfl) (fun _ _ _ h => h) rfl hS2 (fun W hW => by simp [execOp, go_sem, Act.put, hsz, s3, s4]) ?_
      refine h_take (i := 6) (.string A.t) rfl (by kernel_rfl) (by kernel_rfl) (by kernel_rfl) (fun _ _ _ h => h) rfl hS2 (fun W hW => by simp [execOp, go_sem, Act.put, hsz, s3, s4]) ?_
      refine h_take (i := 7) (.int .i64 A.e) rfl (by kernel_rfl) (by kernel_rfl) (by kernel_rfl) (fun _ _ _ h => h) rfl hS2 (fun W hW => by simp [execOp, go_sem, Act.put, hsz, s3, s4]) ?_
      obtain ⟨⟨zz, q0, q1, q2⟩, f0, f1, f2⟩ := gd_box hX
      obtain ⟨uf, huf, hXf, hBf⟩ := gd_put ub XB 0 0 0 A.s A.a A.h hX
      have hSf : Below w2.heap.size w2 uf := hBf _ _ hX0 hS2
      refine h_skip (i := 9) (w' := uf) rfl (by kernel_rfl) rfl (by rw [← huf]; simp [execOp, go_sem, Act.put, hsz, s3, s4, zz, q0, q1, q2, f0, f1, f2]) hSf ?_
      refine h_value (i := 10) (w' := uf) (.string A.t) rfl (by kernel_rfl) rfl (by simp [execOp, go_sem, Act.put, hsz, s3, s4]) hSf ?_
      refine h_value (i := 11) (w' := uf) (.int .i64 A.e) rfl (by kernel_rfl) rfl (by simp [execOp, go_sem, Act.put, hsz, s3, s4]) hSf ?_
      refine wpAnyH_done (by kernel_rfl) ?_ _
      generalize XB = XX at *
      subst ha0
      clear hsz s3 s4
      clear huf hBf zz q0 q1 q2 f0 f1 f2
      go_simp
      go_wp2_with fail
      go_meet
      case rel => exact ⟨XX, rfl, rfl, rfl, hSf, hXf⟩
  case rest =>
  obtain ⟨X, rfl, rfl, rfl, HX⟩ := hcut
  rename World => wA
  have HBwA : Hid (Below w2.heap.size w2 wA) := HX.out.1
  clear HX HCA
  by_cases he : A.e = 0
  rotate_left
  · have hp : ((A.e != 0) = true ∧ (chkS d c T == A.e) = true) ∨ ((A.e != 0) = true ∧ (chkS d c T == A.e) = false ∧ gR s a h = false) := by
      have q : (A.e != 0) = true := by simpa using he
      rcases tells_bad HYA.out he with ⟨_, q2⟩ | ⟨q1, q2, q3⟩
      · exact .inl ⟨q, by simp [q2]⟩
      · exact .inr ⟨q, by simp [q1, q3], q2⟩
    clear HYA he HSr
    generalize A.e = x at *
    generalize A.t = At at *
    generalize chkS d c T = z at *
    generalize hgr : gR s a h = gr at *
    rcases hp with ⟨p1, p2⟩ | ⟨p1, p2, rfl⟩
    all_goals
      go_wp2_with fail
      refine (HL.out _).mono ?_
      rintro e wB ⟨rfl, hbB⟩
      have HBB : Hid (Below w2.heap.size w2 wB) := bsq HBwA.out hbB
      clear hbB
      go_wp2_with fail
      refine (HL.out _).mono ?_
      rintro e wC ⟨rfl, hbC⟩
      have HBC : Hid (Below w2.heap.size w2 wC) := bsq HBB.out hbC
      clear hbC
      have hSC := HS.out wC HBC.out
      go_wp2_with (refine wpList_sheet rfl _ rfl w.heap.size rfl hSC ?_)
      refine (HCk.out wC HBC.out).mono ?_
      rintro e wD ⟨rfl, hbD⟩
      have HBD : Hid (Below w2.heap.size w2 wD) := bsq HBC.out hbD
      clear hbD hSC
    · go_wp2
      go_ret
      exact ⟨rfl, bsq HB2.out HBD.out⟩
    · obtain ⟨⟨zg, g0, g1, g2⟩, _⟩ := gd_box (HG.out wD HBD.out)
      go_wp2_with fail
      refine (HGd.out _).mono ?_
      rintro e wE ⟨rfl, hbE⟩
      have HBE : Hid (Below w2.heap.size w2 wE) := bsq HBD.out hbE
      clear hbE zg g0 g1 g2
      go_wp2
      go_ret
      exact ⟨rfl, bsq HB2.out HBE.out⟩
  obtain ⟨h1, h2, hA⟩ := tells_ok HYA.out he
  have H1 : Hid (chkS d c T = 0) := h1
  have H2 : Hid (gR s a h = true) := h2
  have HRD : Hid (∀ u : World, Calls Try.prog 18 #[.string A.t] u fun e w' => e = .returned (.tuple #[dvV d, .int .i64 0]) ∧ Below u.heap.size u w') := fun u => by
    obtain ⟨k1, k2, k3⟩ := wd_yes (chkS_ok h1).1
    have q := readDevice_any (wdT d) u (by rw [k3]; decide)
    have z : A.t = wdT d := by rw [hA]
    rw [k2, (rd_devL k1).1, (rd_devL k1).2] at q
    rw [z, k2]
    exact q
  have he1 : (A.e != 0) = false := by simpa using he
  clear hA HYA he HCk HGd
  have hmB : (wrT 5 512 0 65535).size ≤ maxLen := wr_small _ _ _ _
  have HCB : Hid (∀ u : World, Below w2.heap.size w2 u → Calls Try.prog 11 #[shV d c (.slice fa fn fcp) (.slice ta tn tcp), gdV s a h, .string (wrT 5 512 0 65535)] u fun e w' => e = .returned (ansV (ctl d c T s a h (wrT 5 512 0 65535))) ∧ Below u.heap.size u w') := fun u hu => control_any d c L _ T _ s a h _ u (HSr.out u hu) hmB
  obtain ⟨B, hB⟩ : ∃ Y, ctl d c T s a h (wrT 5 512 0 65535) = Y := ⟨_, rfl⟩
  have HYB : Hid (ctl d c T s a h (wrT 5 512 0 65535) = B) := hB
  rw [hB] at HCB
  clear hB hmB
  have hB : B = ⟨s, a, h, wcT c, 0⟩ := HYB.out.symm.trans (tells_conf h1 h2)
  have HRC : Hid (∀ u : World, Calls Try.prog 19 #[.string B.t] u fun e w' => ∃ vf L X, e = .returned (.tuple #[cfV c vf, .int .i64 0]) ∧ Inv u w' X c.va c.na c.atr c.po vf L ∧ L.map Prod.fst = c.fs) := fun u => by
    have z : B.t = strOfNums (confL c) := by rw [hB]; exact (wc_yes (chkS_ok h1).2.2.1).1
    rw [z]
    exact descBack.readBack coAll c u (chkS_ok h1).2.2.1 HBb.out
  have hb1 : (B.e != 0) = false := by rw [hB]; rfl
  have HCT : Hid (∀ (k : Nat) (t : List Int), k < tn ∧ T[k]? = some t → ∀ u : World, Below w2.heap.size w2 u → Calls Try.prog 11 #[shV d c (.slice fa fn fcp) (.slice ta tn tcp), gdV s a h, .string (wrT 5 (769 + (k : Int)) 0 65535)] u fun e w' => e = .returned (ansV ⟨s, a, h, dtxt (strOfNums t), 0⟩) ∧ Below u.heap.size u w') := fun k t hk u hu => by
    rw [← (tells_text h1 h2 k t hk.2).1]
    exact control_any d c L _ T _ s a h _ u (HSr.out u hu) (wr_small _ _ _ _)
  have HRT : Hid (∀ (k : Nat) (t : List Int), k < tn ∧ T[k]? = some t → ∀ u : World, Calls Try.prog 21 #[.string (dtxt (strOfNums t))] u fun e w' => e = .returned (.tuple #[.string (utf.clean (strOfNums t)), .int .i64 0]) ∧ Below u.heap.size u w') := fun k t hk u => by
    obtain ⟨b1, b2, b3, b4⟩ := descNames.back (tells_text (s := s) (a := a) (h := h) h1 h2 k t hk.2).2
    have q := readText_any (dtxt (strOfNums t)) u (by unfold maxLen; omega)
    rw [b1, b2] at q
    exact q
  have HRO : Hid (∀ (k : Nat) (t : List Int), k < tn ∧ T[k]? = some t → ∀ u : World, Calls Try.prog 22 #[.string (strOfNums t)] u fun e w' => e = .returned (.string (utf.clean (strOfNums t))) ∧ Below u.heap.size u w') := fun k t hk u => by
    obtain ⟨b1, b2, b3, b4⟩ := descNames.back (tells_text (s := s) (a := a) (h := h) h1 h2 k t hk.2).2
    exact utf.runesOf_any _ u (by omega)
  have HK9 : Hid (∀ (k : Nat) (t : List Int), k < tn ∧ T[k]? = some t → 769 + (k : Int) ≤ 65535) := fun k t hk => k_le h1 k t hk.2
  clear hB HYB h1 h2
  generalize A.e = x at *
  generalize A.t = At at *
  go_wp2_with fail
  refine (HL.out _).mono ?_
  rintro e wB ⟨rfl, hbB⟩
  have HBB : Hid (Below w2.heap.size w2 wB) := bsq HBwA.out hbB
  clear hbB
  go_wp2_with fail
  refine (HRD.out _).mono ?_
  rintro e wD ⟨rfl, hbD⟩
  have HBD : Hid (Below w2.heap.size w2 wD) := bsq HBB.out hbD
  clear hbD
  obtain ⟨wE, hwE⟩ : ∃ we, wD.alloc (dvO d) = we := ⟨_, rfl⟩
  have HBwE : Hid (Below w2.heap.size w2 wE) := by rw [← hwE]; exact bsq HBD.out (balloc _ _)
  have HDE : Hid (∀ u : World, Below wE.heap.size wE u → u.heap[wD.heap.size]? = some (dvO d)) := fun u hu => keep (by rw [← hwE]; exact (MapKept.heap_alloc wD _).1) hu
  clear HRD HBB HBD
  go_upto_region 5 with (fail)
  go_cut [11, 12, 13] from 19 (fun pv tw cv wx => ∃ X : Nat, pv = .pointer (some ⟨X, 0, none⟩) ∧ tw = .string B.t ∧ cv = .int .i64 B.e ∧ Hid (Below wE.heap.size wE wx ∧ wx.heap[X]? = some (gdO B.s B.a B.h)))
  case first =>
    refine wp_abs (fun a0 => a0.tmps.size = 131 ∧ (∀ h, a0.tmps[3]'h = .pointer (some ⟨w.heap.size, 0, none⟩)) ∧ (∀ h, a0.tmps[4]'h = .pointer (some ⟨w1.heap.size, 0, none⟩))) ⟨rfl, fun _ => rfl, fun _ => rfl⟩ ?_
    rintro a0 ⟨hsz, s3, s4⟩ ha0
    refine wp_region_held (S := fun W => Below wE.heap.size wE W) (by kernel_rfl) ?_
    have hS0 : Below wE.heap.size wE wE.drew := (Below.refl _ _).drew
    refine h_take (i := 0) (shV d c (.slice fa fn fcp) (.slice ta tn tcp)) rfl (by kernel_rfl) (by kernel_rfl) (by kernel_rfl) (fun _ _ _ h => h) rfl hS0 (fun W hW => by have h := run_sheet (HS.out W (bsq HBwE.out hW)); simp only [execOp]; simp only [Act.eval]; simp [Act.put, hsz, s3, s4, h]) ?_
    refine h_take (i := 1) (gdV s a h) rfl (by kernel_rfl) (by kernel_rfl) (by kernel_rfl) (fun _ _ _ h => h) rfl hS0 (fun W hW => by obtain ⟨⟨zg, g0, g1, g2⟩, _⟩ := gd_box (HG.out W (bsq HBwE.out hW)); simp [execOp, go_sem, Act.put, hsz, s3, s4, g0, g1, g2]) ?_
    refine h_two 2 8 (by kernel_rfl) ?_ ?_
    · refine o_call 16 #[.int .i64 5, .int .i64 512, .int .i64 0, .int .i64 65535] rfl rfl (by simp [execOp, go_sem, Act.put, hsz, s3, s4]) ((asked_any 5 512 0 65535 (by omega) _).mono ?_)
      rintro e ua ⟨rfl, hba⟩
      have hS1 : Below wE.heap.size wE ua := bsq hS0 hba
      refine ⟨_, rfl, hS1, ?_⟩
      refine h_two 3 8 (by kernel_rfl) ?_ ?_
      · refine o_call 11 #[shV d c (.slice fa fn fcp) (.slice ta tn tcp), gdV s a h, .string (wrT 5 512 0 65535)] rfl rfl (by simp [execOp, go_sem, Act.put, hsz, s3, s4]) ((HCB.out _ (bsq HBwE.out hS1)).mono ?_)
        rintro e ub ⟨rfl, hbb⟩
        have hS2 : Below wE.heap.size wE ub := bsq hS1 hbb
        refine ⟨_, rfl, hS2, ?_⟩
        refine h_take (i := 4) (ansV B) rfl (by kernel_rfl) (by kernel_rfl) (by kernel_rfl) (fun _ _ _ h => h) rfl hS2 (fun W hW => by simp [execOp, go_sem, Act.put, hsz, s3, s4]) ?_
        refine h_take (i := 5) (gdV B.s B.a B.h) rfl (by kernel_rfl) (by kernel_rfl) (by kernel_rfl) (fun _ _ _ h => h) rfl hS2 (fun W hW => by simp [execOp, go_sem, Act.put, hsz, s3, s4]) ?_
        refine h_take (i := 6) (.string B.t) rfl (by kernel_rfl) (by kernel_rfl) (by kernel_rfl) (fun _ _ _ h => h) rfl hS2 (fun W hW => by simp [execOp, go_sem, Act.put, hsz, s3, s4]) ?_
        refine h_take (i := 7) (.int .i64 B.e) rfl (by kernel_rfl) (by kernel_rfl) (by kernel_rfl) (fun _ _ _ h => h) rfl hS2 (fun W hW => by simp [execOp, go_sem, Act.put, hsz, s3, s4]) ?_
        refine h_value (i := 8) (w' := ub.alloc (gdO 0 0 0)) (.pointer (some ⟨ub.heap.size, 0, none⟩)) rfl (by kernel_rfl) rfl (by simp [execOp, go_sem, Act.put, hsz, s3, s4]) (bsq hS2 (balloc _ _)) ?_
        have hX0 : wE.heap.size ≤ ub.heap.size := hS2.size
        have hX := (MapKept.heap_alloc ub (gdO 0 0 0)).1
        have hS3 : Below wE.heap.size wE (ub.alloc (gdO 0 0 0)) := bsq hS2 (balloc _ _)
        generalize ub.alloc (gdO 0 0 0) = ug at *
        obtain ⟨⟨zz, q0, q1, q2⟩, f0, f1, f2⟩ := gd_box hX
        obtain ⟨uf, huf, hXf, hBf⟩ := gd_put ug ub.heap.size 0 0 0 B.s B.a B.h hX
        have hSf : Below wE.heap.size wE uf := hBf _ _ hX0 hS3
        refine h_skip (i := 9) (w' := uf) rfl (by kernel_rfl) rfl (by rw [← huf]; simp [execOp, go_sem, Act.put, hsz, s3, s4, zz, q0, q1, q2, f0, f1, f2]) hSf ?_
        refine h_value (i := 10) (w' := uf) (.string B.t) rfl (by kernel_rfl) rfl (by simp [execOp, go_sem, Act.put, hsz, s3, s4]) hSf ?_
        refine h_value (i := 11) (w' := uf) (.int .i64 B.e) rfl (by kernel_rfl) rfl (by simp [execOp, go_sem, Act.put, hsz, s3, s4]) hSf ?_
        refine wpAnyH_done (by kernel_rfl) ?_ _
        generalize ub.heap.size = XX at *
        subst ha0
        clear hsz s3 s4
        clear huf hBf zz q0 q1 q2 f0 f1 f2
        go_simp
        go_wp2_with fail
        go_meet
        case rel => exact ⟨XX, rfl, rfl, rfl, hSf, hXf⟩
      · refine o_value (w' := ua.alloc (gdO 0 0 0)) (.pointer (some ⟨ua.heap.size, 0, none⟩)) rfl rfl (by simp [execOp, go_sem, Act.put, hsz, s3, s4]) ?_
        have hX0 : wE.heap.size ≤ ua.heap.size := hS1.size
        have hX := (MapKept.heap_alloc ua (gdO 0 0 0)).1
        have hS3 : Below wE.heap.size wE (ua.alloc (gdO 0 0 0)) := bsq hS1 (balloc _ _)
        generalize ua.alloc (gdO 0 0 0) = ug at *
        refine ⟨hS3, ?_⟩
        refine wpAnyH_all (rs := [3]) (by kernel_rfl) (by simp) (fun k hk => ?_)
        obtain rfl : k = 3 := by simpa using hk
        refine o_call 11 #[shV d c (.slice fa fn fcp) (.slice ta tn tcp), gdV s a h, .string (wrT 5 512 0 65535)] rfl rfl (by simp [execOp, go_sem, Act.put, hsz, s3, s4]) ((HCB.out _ (bsq HBwE.out hS3)).mono ?_)
        rintro e ub ⟨rfl, hbb⟩
        have hS2 : Below wE.heap.size wE ub := bsq hS3 hbb
        have hX := keep hX hbb
        refine ⟨_, rfl, hS2, ?_⟩
        refine h_take (i := 4) (ansV B) rfl (by kernel_rfl) (by kernel_rfl) (by kernel_rfl) (fun _ _ _ h => h) rfl hS2 (fun W hW => by simp [execOp, go_sem, Act.put, hsz, s3, s4]) ?_
        refine h_take (i := 5) (gdV B.s B.a B.h) rfl (by kernel_rfl) (by kernel_rfl) (by kernel_rfl) (fun _ _ _ h => h) rfl hS2 (fun W hW => by simp [execOp, go_sem, Act.put, hsz, s3, s4]) ?_
        refine h_take (i := 6) (.string B.t) rfl (by kernel_rfl) (by kernel_rfl) (by kernel_rfl) (fun _ _ _ h => h) rfl hS2 (fun W hW => by simp [execOp, go_sem, Act.put, hsz, s3, s4]) ?_
        refine h_take (i := 7) (.int .i64 B.e) rfl (by kernel_rfl) (by kernel_rfl) (by kernel_rfl) (fun _ _ _ h => h) rfl hS2 (fun W hW => by simp [execOp, go_sem, Act.put, hsz, s3, s4]) ?_
        obtain ⟨⟨zz, q0, q1, q2⟩, f0, f1, f2⟩ := gd_box hX
        obtain ⟨uf, huf, hXf, hBf⟩ := gd_put ub ua.heap.size 0 0 0 B.s B.a B.h hX
        have hSf : Below wE.heap.size wE uf := hBf _ _ hX0 hS2
        refine h_skip (i := 9) (w' := uf) rfl (by kernel_rfl) rfl (by rw [← huf]; simp [execOp, go_sem, Act.put, hsz, s3, s4, zz, q0, q1, q2, f0, f1, f2]) hSf ?_
        refine h_value (i := 10) (w' := uf) (.string B.t) rfl (by kernel_rfl) rfl (by simp [execOp, go_sem, Act.put, hsz, s3, s4]) hSf ?_
        refine h_value (i := 11) (w' := uf) (.int .i64 B.e) rfl (by kernel_rfl) rfl (by simp [execOp, go_sem, Act.put, hsz, s3, s4]) hSf ?_
        refine wpAnyH_done (by kernel_rfl) ?_ _
        generalize ua.heap.size = XX at *
        subst ha0
        clear hsz s3 s4
        clear huf hBf zz q0 q1 q2 f0 f1 f2
        go_simp
        go_wp2_with fail
        go_meet
        case rel => exact ⟨XX, rfl, rfl, rfl, hSf, hXf⟩
    · refine o_value (w' := wE.drew.alloc (gdO 0 0 0)) (.pointer (some ⟨wE.drew.heap.size, 0, none⟩)) rfl rfl (by simp [execOp, go_sem, Act.put, hsz, s3, s4]) ?_
      have hX0 : wE.heap.size ≤ wE.drew.heap.size := Nat.le_refl _
      have hX := (MapKept.heap_alloc wE.drew (gdO 0 0 0)).1
      have hS3 : Below wE.heap.size wE (wE.drew.alloc (gdO 0 0 0)) := bsq hS0 (balloc _ _)
      generalize wE.drew.heap.size = XB at *
      generalize wE.drew.alloc (gdO 0 0 0) = ug at *
      refine ⟨hS3, ?_⟩
      refine wpAnyH_all (rs := [2]) (by kernel_rfl) (by simp) (fun k hk => ?_)
      obtain rfl : k = 2 := by simpa using hk
      refine o_call 16 #[.int .i64 5, .int .i64 512, .int .i64 0, .int .i64 65535] rfl rfl (by simp [execOp, go_sem, Act.put, hsz, s3, s4]) ((asked_any 5 512 0 65535 (by omega) _).mono ?_)
      rintro e ua ⟨rfl, hba⟩
      have hS1 : Below wE.heap.size wE ua := bsq hS3 hba
      have hX := keep hX hba
      refine ⟨_, rfl, hS1, ?_⟩
      refine wpAnyH_all (rs := [3]) (by kernel_rfl) (by simp) (fun k hk => ?_)
      obtain rfl : k = 3 := by simpa using hk
      refine o_call 11 #[shV d c (.slice fa fn fcp) (.slice ta tn tcp), gdV s a h, .string (wrT 5 512 0 65535)] rfl rfl (by simp [execOp, go_sem, Act.put, hsz, s3, s4]) ((HCB.out _ (bsq HBwE.out hS1)).mono ?_)
      rintro e ub ⟨rfl, hbb⟩
      have hS2 : Below wE.heap.size wE ub := bsq hS1 hbb
      have hX := keep hX hbb
      refine ⟨_, rfl, hS2, ?_⟩
      refine h_take (i := 4) (ansV B) rfl (by kernel_rfl) (by kernel_rfl) (by kernel_rfl) (fun _ _ _ h => h) rfl hS2 (fun W hW => by simp [execOp, go_sem, Act.put, hsz, s3, s4]) ?_
      refine h_take (i := 5) (gdV B.s B.a B.h) rfl (by kernel_rfl) (by kernel_rfl) (by kernel_rfl) (fun _ _ _ h => h) rfl hS2 (fun W hW => by simp [execOp, go_sem, Act.put, hsz, s3, s4]) ?_
      refine h_take (i := 6) (.string B.t) rfl (by kernel_rfl) (by kernel_rfl) (by kernel_rfl) (fun _ _ _ h => h) rfl hS2 (fun W hW => by simp [execOp, go_sem, Act.put, hsz, s3, s4]) ?_
      refine h_take (i := 7) (.int .i64 B.e) rfl (by kernel_rfl) (by kernel_rfl) (by kernel_rfl) (fun _ _ _ h => h) rfl hS2 (fun W hW => by simp [execOp, go_sem, Act.put, hsz, s3, s4]) ?_
      obtain ⟨⟨zz, q0, q1, q2⟩, f0, f1, f2⟩ := gd_box hX
      obtain ⟨uf, huf, hXf, hBf⟩ := gd_put ub XB 0 0 0 B.s B.a B.h hX
      have hSf : Below wE.heap.size wE uf := hBf _ _ hX0 hS2
      refine h_skip (i := 9) (w' := uf) rfl (by kernel_rfl) rfl (by rw [← huf]; simp [execOp, go_sem, Act.put, hsz, s3, s4, zz, q0, q1, q2, f0, f1, f2]) hSf ?_
      refine h_value (i := 10) (w' := uf) (.string B.t) rfl (by kernel_rfl) rfl (by simp [execOp, go_sem, Act.put, hsz, s3, s4]) hSf ?_
      refine h_value (i := 11) (w' := uf) (.int .i64 B.e) rfl (by kernel_rfl) rfl (by simp [execOp, go_sem, Act.put, hsz, s3, s4]) hSf ?_
      refine wpAnyH_done (by kernel_rfl) ?_ _
      generalize XB = XX at *
      subst ha0
      clear hsz s3 s4
      clear huf hBf zz q0 q1 q2 f0 f1 f2
      go_simp
      go_wp2_with fail
      go_meet
      case rel => exact ⟨XX, rfl, rfl, rfl, hSf, hXf⟩
  case rest =>
  obtain ⟨X5, rfl, rfl, rfl, HX⟩ := hcut
  rename World => wF
  have HBwF : Hid (Below w2.heap.size w2 wF) := bsq HBwE.out HX.out.1
  have HDF : Hid (∀ u : World, Below wF.heap.size wF u → u.heap[wD.heap.size]? = some (dvO d)) := fun u hu => HDE.out u (bsq HX.out.1 hu)
  clear HX HCB HDE
  go_wp2_with fail
  refine (HRC.out _).mono ?_
  rintro e wG ⟨vf, LG, XG, rfl, hI, hLG⟩
  have hrc : Rc wG vf c LG := ⟨hI.rc.fs, hLG⟩
  have HBG : Hid (Below wF.heap.size wF wG) := hI.bel
  clear hI hLG
  obtain ⟨ga, gn, gc, rfl⟩ : ∃ a n c, vf = .slice a n c := by obtain ⟨a, c, h, _⟩ := hrc.fs.row; exact ⟨_, _, _, h⟩
  obtain ⟨wH, hwH⟩ : ∃ wh, wG.alloc (cfO c.va c.na c.atr c.po (.slice ga gn gc)) = wh := ⟨_, rfl⟩
  have hbH : Below wG.heap.size wG wH := by rw [← hwH]; exact balloc _ _
  have HBFH : Hid (Below wF.heap.size wF wH) := bsq HBG.out hbH
  have HBwH : Hid (Below w2.heap.size w2 wH) := bsq HBwF.out HBFH.out
  obtain ⟨⟨_, y0, y1, y2, y3, y4⟩, _⟩ := box5f (X := wG.heap.size) (u := wH) (a := c.va) (b := c.na) (c := c.atr) (d := c.po) (v := .slice ga gn gc) (by rw [← hwH]; exact (MapKept.heap_alloc wG _).1)
  obtain ⟨_, p0, p1, p2, p3, p4, p5, p6, p7, p8, p9, p10, p11⟩ := (box12 (d := d) (HDF.out wH HBFH.out)).1
  obtain ⟨_, c0, c1, c2, c3, c4, c5, c6, c7, c8, c9, c10, c11, c12, c13, c14, c15, c16, c17⟩ := ShC.of (HS.out wH HBwH.out)
  have HSC : Hid (Calls Try.prog 20 #[cfV c (.slice ga gn gc), cfV c (.slice fa fn fcp)] wH fun e w' => e = .returned (.bool true) ∧ Below wH.heap.size wH w') := sameConfig_same c _ _ LG L wH (hrc.below hbH) (HSr.out wH HBwH.out).rc
  have qd := neq_dv d
  clear hbH hrc HBG HRC
  go_wp2_with fail
  refine HSC.out.mono ?_
  rintro e wI ⟨rfl, hbI⟩
  have HBI : Hid (Below w2.heap.size w2 wI) := bsq HBwH.out hbI
  clear hbI HSC y0 y1 y2 y3 y4 p0 p1 p2 p3 p4 p5 p6 p7 p8 p9 p10 p11 c0 c1 c2 c3 c4 c5 c6 c7 c8 c9 c10 c11 c12 c13 c14 c15 c16 c17 qd hwH HDF HBFH HBwH
  have d17 := (ShC.of (HS.out wI HBI.out)).c17
  by_cases hn1 : n < 1
  · clear d17
    go_wp2
    go_ret
    exact ⟨rfl, bsq HB2.out HBI.out⟩
  by_cases hn2 : (tn : Int) < n
  · go_wp2
    go_ret
    exact ⟨rfl, bsq HB2.out HBI.out⟩
  obtain ⟨k, t, hnk, hk1, hk2⟩ := (HN.out.resolve_left hn1).resolve_left hn2
  have HNK : Hid (n = (k : Int) + 1) := hnk
  have HK : Hid (k < tn ∧ T[k]? = some t) := ⟨hk1, hk2⟩
  obtain ⟨wz1, wz2⟩ := n_wrap hnk (HK9.out k t HK.out)
  have HK8 : Hid (769 + (k : Int) ≤ 65535) := HK9.out k t HK.out
  have HCt := HCT.out k t HK.out
  rw [n_val hnk] at HCt
  clear HCT HN HK9 hnk hk1 hk2
  obtain ⟨C, HY⟩ : ∃ Y, Y = (⟨s, a, h, dtxt (strOfNums t), 0⟩ : Ans) := ⟨_, rfl⟩
  rw [← HY] at HCt
  have HCC : Hid (∀ u : World, Below w2.heap.size w2 u → Calls Try.prog 11 #[shV d c (.slice fa fn fcp) (.slice ta tn tcp), gdV s a h, .string (wrT 5 (768 + n) 0 65535)] u fun e w' => e = .returned (ansV C) ∧ Below u.heap.size u w') := HCt
  have HYC : Hid (C = (⟨s, a, h, dtxt (strOfNums t), 0⟩ : Ans)) := HY
  clear HCt HY
  have HBwI : Hid (Below w2.heap.size w2 wI) := HBI.out
  go_upto_region 11 with (fail)
  go_cut [16, 17, 9] from 19 (fun pv tw cv wx => ∃ X : Nat, pv = .pointer (some ⟨X, 0, none⟩) ∧ tw = .string C.t ∧ cv = .int .i64 C.e ∧ Hid (Below wI.heap.size wI wx ∧ wx.heap[X]? = some (gdO C.s C.a C.h)))
  case first =>
    refine wp_abs (fun a0 => a0.tmps.size = 131 ∧ (∀ h, a0.tmps[2]'h = .int .i64 n) ∧ (∀ h, a0.tmps[3]'h = .pointer (some ⟨w.heap.size, 0, none⟩)) ∧ (∀ h, a0.tmps[4]'h = .pointer (some ⟨w1.heap.size, 0, none⟩))) ⟨rfl, fun _ => rfl, fun _ => rfl, fun _ => rfl⟩ ?_
    rintro a0 ⟨hsz, s2, s3, s4⟩ ha0
    refine wp_region_held (S := fun W => Below wI.heap.size wI W) (by kernel_rfl) ?_
    have hS0 : Below wI.heap.size wI wI.drew := (Below.refl _ _).drew
    refine h_take (i := 0) (shV d c (.slice fa fn fcp) (.slice ta tn tcp)) rfl (by kernel_rfl) (by kernel_rfl) (by kernel_rfl) (fun _ _ _ h => h) rfl hS0 (fun W hW => by have h := run_sheet (HS.out W (bsq HBwI.out hW)); simp only [execOp]; simp only [Act.eval]; simp [Act.put, hsz, s2, s3, s4, h]) ?_
    refine h_take (i := 1) (gdV s a h) rfl (by kernel_rfl) (by kernel_rfl) (by kernel_rfl) (fun _ _ _ h => h) rfl hS0 (fun W hW => by obtain ⟨⟨zg, g0, g1, g2⟩, _⟩ := gd_box (HG.out W (bsq HBwI.out hW)); simp [execOp, go_sem, Act.put, hsz, s2, s3, s4, g0, g1, g2]) ?_
    refine h_take (i := 2) (.int .i64 n) rfl (by kernel_rfl) (by kernel_rfl) (by kernel_rfl) (fun _ _ _ h => h) rfl hS0 (fun W hW => by simp [execOp, go_sem, Act.put, hsz, s2, s3, s4]) ?_
    refine h_take (i := 3) (.int .i64 (768 + n)) rfl (by kernel_rfl) (by kernel_rfl) (by kernel_rfl) (fun _ _ _ h => h) rfl hS0 (fun W hW => by simp [execOp, go_sem, Act.put, hsz, s2, s3, s4, wz1]) ?_
    refine h_two 4 10 (by kernel_rfl) ?_ ?_
    · refine o_call 16 #[.int .i64 5, .int .i64 (768 + n), .int .i64 0, .int .i64 65535] rfl rfl (by simp [execOp, go_sem, Act.put, hsz, s2, s3, s4]) ((asked_any 5 (768 + n) 0 65535 (by omega) _).mono ?_)
      rintro e ua ⟨rfl, hba⟩
      have hS1 : Below wI.heap.size wI ua := bsq hS0 hba
      refine ⟨_, rfl, hS1, ?_⟩
      refine h_two 5 10 (by kernel_rfl) ?_ ?_
      · refine o_call 11 #[shV d c (.slice fa fn fcp) (.slice ta tn tcp), gdV s a h, .string (wrT 5 (768 + n) 0 65535)] rfl rfl (by simp [execOp, go_sem, Act.put, hsz, s2, s3, s4]) ((HCC.out _ (bsq HBwI.out hS1)).mono ?_)
        rintro e ub ⟨rfl, hbb⟩
        have hS2 : Below wI.heap.size wI ub := bsq hS1 hbb
        refine ⟨_, rfl, hS2, ?_⟩
        refine h_take (i := 6) (ansV C) rfl (by kernel_rfl) (by kernel_rfl) (by kernel_rfl) (fun _ _ _ h => h) rfl hS2 (fun W hW => by simp [execOp, go_sem, Act.put, hsz, s2, s3, s4]) ?_
        refine h_take (i := 7) (gdV C.s C.a C.h) rfl (by kernel_rfl) (by kernel_rfl) (by kernel_rfl) (fun _ _ _ h => h) rfl hS2 (fun W hW => by simp [execOp, go_sem, Act.put, hsz, s2, s3, s4]) ?_
        refine h_take (i := 8) (.string C.t) rfl (by kernel_rfl) (by kernel_rfl) (by kernel_rfl) (fun _ _ _ h => h) rfl hS2 (fun W hW => by simp [execOp, go_sem, Act.put, hsz, s2, s3, s4]) ?_
        refine h_take (i := 9) (.int .i64 C.e) rfl (by kernel_rfl) (by kernel_rfl) (by kernel_rfl) (fun _ _ _ h => h) rfl hS2 (fun W hW => by simp [execOp, go_sem, Act.put, hsz, s2, s3, s4]) ?_
        refine h_value (i := 10) (w' := ub.alloc (gdO 0 0 0)) (.pointer (some ⟨ub.heap.size, 0, none⟩)) rfl (by kernel_rfl) rfl (by simp [execOp, go_sem, Act.put, hsz, s2, s3, s4]) (bsq hS2 (balloc _ _)) ?_
        have hX0 : wI.heap.size ≤ ub.heap.size := hS2.size
        have hX := (MapKept.heap_alloc ub (gdO 0 0 0)).1
        have hS3 : Below wI.heap.size wI (ub.alloc (gdO 0 0 0)) := bsq hS2 (balloc _ _)
        generalize ub.alloc (gdO 0 0 0) = ug at *
        obtain ⟨⟨zz, q0, q1, q2⟩, f0, f1, f2⟩ := gd_box hX
        obtain ⟨uf, huf, hXf, hBf⟩ := gd_put ug ub.heap.size 0 0 0 C.s C.a C.h hX
        have hSf : Below wI.heap.size wI uf := hBf _ _ hX0 hS3
        refine h_skip (i := 11) (w' := uf) rfl (by kernel_rfl) rfl (by rw [← huf]; simp [execOp, go_sem, Act.put, hsz, s2, s3, s4, zz, q0, q1, q2, f0, f1, f2]) hSf ?_
        refine h_value (i := 12) (w' := uf) (.string C.t) rfl (by kernel_rfl) rfl (by simp [execOp, go_sem, Act.put, hsz, s2, s3, s4]) hSf ?_
        refine h_value (i := 13) (w' := uf) (.int .i64 C.e) rfl (by kernel_rfl) rfl (by simp [execOp, go_sem, Act.put, hsz, s2, s3, s4]) hSf ?_
        refine wpAnyH_done (by kernel_rfl) ?_ _
        generalize ub.heap.size = XX at *
        subst ha0
        clear hsz s2 s3 s4
        clear huf hBf zz q0 q1 q2 f0 f1 f2
        go_simp
        go_wp2_with fail
        go_meet
        case rel => exact ⟨XX, rfl, rfl, rfl, hSf, hXf⟩
      · refine o_value (w' := ua.alloc (gdO 0 0 0)) (.pointer (some ⟨ua.heap.size, 0, none⟩)) rfl rfl (by simp [execOp, go_sem, Act.put, hsz, s2, s3, s4]) ?_
        have hX0 : wI.heap.size ≤ ua.heap.size := hS1.size
        have hX := (MapKept.heap_alloc ua (gdO 0 0 0)).1
        have hS3 : Below wI.heap.size wI (ua.alloc (gdO 0 0 0)) := bsq hS1 (balloc _ _)
        generalize ua.alloc (gdO 0 0 0) = ug at *
        refine ⟨hS3, ?_⟩
        refine wpAnyH_all (rs := [5]) (by kernel_rfl) (by simp) (fun k hk => ?_)
        obtain rfl : k = 5 := by simpa using hk
        refine o_call 11 #[shV d c (.slice fa fn fcp) (.slice ta tn tcp), gdV s a h, .string (wrT 5 (768 + n) 0 65535)] rfl rfl (by simp [execOp, go_sem, Act.put, hsz, s2, s3, s4]) ((HCC.out _ (bsq HBwI.out hS3)).mono ?_)
        rintro e ub ⟨rfl, hbb⟩
        have hS2 : Below wI.heap.size wI ub := bsq hS3 hbb
        have hX := keep hX hbb
        refine ⟨_, rfl, hS2, ?_⟩
        refine h_take (i := 6) (ansV C) rfl (by kernel_rfl) (by kernel_rfl) (by kernel_rfl) (fun _ _ _ h => h) rfl hS2 (fun W hW => by simp [execOp, go_sem, Act.put, hsz, s2, s3, s4]) ?_
        refine h_take (i := 7) (gdV C.s C.a C.h) rfl (by kernel_rfl) (by kernel_rfl) (by kernel_rfl) (fun _ _ _ h => h) rfl hS2 (fun W hW => by simp [execOp, go_sem, Act.put, hsz, s2, s3, s4]) ?_
        refine h_take (i := 8) (.string C.t) rfl (by kernel_rfl) (by kernel_rfl) (by kernel_rfl) (fun _ _ _ h => h) rfl hS2 (fun W hW => by simp [execOp, go_sem, Act.put, hsz, s2, s3, s4]) ?_
        refine h_take (i := 9) (.int .i64 C.e) rfl (by kernel_rfl) (by kernel_rfl) (by kernel_rfl) (fun _ _ _ h => h) rfl hS2 (fun W hW => by simp [execOp, go_sem, Act.put, hsz, s2, s3, s4]) ?_
        obtain ⟨⟨zz, q0, q1, q2⟩, f0, f1, f2⟩ := gd_box hX
        obtain ⟨uf, huf, hXf, hBf⟩ := gd_put ub ua.heap.size 0 0 0 C.s C.a C.h hX
        have hSf : Below wI.heap.size wI uf := hBf _ _ hX0 hS2
        refine h_skip (i := 11) (w' := uf) rfl (by kernel_rfl) rfl (by rw [← huf]; simp [execOp, go_sem, Act.put, hsz, s2, s3, s4, zz, q0, q1, q2, f0, f1, f2]) hSf ?_
        refine h_value (i := 12) (w' := uf) (.string C.t) rfl (by kernel_rfl) rfl (by simp [execOp, go_sem, Act.put, hsz, s2, s3, s4]) hSf ?_
        refine h_value (i := 13) (w' := uf) (.int .i64 C.e) rfl (by kernel_rfl) rfl (by simp [execOp, go_sem, Act.put, hsz, s2, s3, s4]) hSf ?_
        refine wpAnyH_done (by kernel_rfl) ?_ _
        generalize ua.heap.size = XX at *
        subst ha0
        clear hsz s2 s3 s4
        clear huf hBf zz q0 q1 q2 f0 f1 f2
        go_simp
        go_wp2_with fail
        go_meet
        case rel => exact ⟨XX, rfl, rfl, rfl, hSf, hXf⟩
    · refine o_value (w' := wI.drew.alloc (gdO 0 0 0)) (.pointer (some ⟨wI.drew.heap.size, 0, none⟩)) rfl rfl (by simp [execOp, go_sem, Act.put, hsz, s2, s3, s4]) ?_
      have hX0 : wI.heap.size ≤ wI.drew.heap.size := Nat.le_refl _
      have hX := (MapKept.heap_alloc wI.drew (gdO 0 0 0)).1
      have hS3 : Below wI.heap.size wI (wI.drew.alloc (gdO 0 0 0)) := bsq hS0 (balloc _ _)
      generalize wI.drew.heap.size = XB at *
      generalize wI.drew.alloc (gdO 0 0 0) = ug at *
      refine ⟨hS3, ?_⟩
      refine wpAnyH_all (rs := [4]) (by kernel_rfl) (by simp) (fun k hk => ?_)
      obtain rfl : k = 4 := by simpa using hk
      refine o_call 16 #[.int .i64 5, .int .i64 (768 + n), .int .i64 0, .int .i64 65535] rfl rfl (by simp [execOp, go_sem, Act.put, hsz, s2, s3, s4]) ((asked_any 5 (768 + n) 0 65535 (by omega) _).mono ?_)
      rintro e ua ⟨rfl, hba⟩
      have hS1 : Below wI.heap.size wI ua := bsq hS3 hba
      have hX := keep hX hba
      refine ⟨_, rfl, hS1, ?_⟩
      refine wpAnyH_all (rs := [5]) (by kernel_rfl) (by simp) (fun k hk => ?_)
      obtain rfl : k = 5 := by simpa using hk
      refine o_call 11 #[shV d c (.slice fa fn fcp) (.slice ta tn tcp), gdV s a h, .string (wrT 5 (768 + n) 0 65535)] rfl rfl (by simp [execOp, go_sem, Act.put, hsz, s2, s3, s4]) ((HCC.out _ (bsq HBwI.out hS1)).mono ?_)
      rintro e ub ⟨rfl, hbb⟩
      have hS2 : Below wI.heap.size wI ub := bsq hS1 hbb
      have hX := keep hX hbb
      refine ⟨_, rfl, hS2, ?_⟩
      refine h_take (i := 6) (ansV C) rfl (by kernel_rfl) (by kernel_rfl) (by kernel_rfl) (fun _ _ _ h => h) rfl hS2 (fun W hW => by simp [execOp, go_sem, Act.put, hsz, s2, s3, s4]) ?_
      refine h_take (i := 7) (gdV C.s C.a C.h) rfl (by kernel_rfl) (by kernel_rfl) (by kernel_rfl) (fun _ _ _ h => h) rfl hS2 (fun W hW => by simp [execOp, go_sem, Act.put, hsz, s2, s3, s4]) ?_
      refine h_take (i := 8) (.string C.t) rfl (by kernel_rfl) (by kernel_rfl) (by kernel_rfl) (fun _ _ _ h => h) rfl hS2 (fun W hW => by simp [execOp, go_sem, Act.put, hsz, s2, s3, s4]) ?_
      refine h_take (i := 9) (.int .i64 C.e) rfl (by kernel_rfl) (by kernel_rfl) (by kernel_rfl) (fun _ _ _ h => h) rfl hS2 (fun W hW => by simp [execOp, go_sem, Act.put, hsz, s2, s3, s4]) ?_
      obtain ⟨⟨zz, q0, q1, q2⟩, f0, f1, f2⟩ := gd_box hX
      obtain ⟨uf, huf, hXf, hBf⟩ := gd_put ub XB 0 0 0 C.s C.a C.h hX
      have hSf : Below wI.heap.size wI uf := hBf _ _ hX0 hS2
      refine h_skip (i := 11) (w' := uf) rfl (by kernel_rfl) rfl (by rw [← huf]; simp [execOp, go_sem, Act.put, hsz, s2, s3, s4, zz, q0, q1, q2, f0, f1, f2]) hSf ?_
      refine h_value (i := 12) (w' := uf) (.string C.t) rfl (by kernel_rfl) rfl (by simp [execOp, go_sem, Act.put, hsz, s2, s3, s4]) hSf ?_
      refine h_value (i := 13) (w' := uf) (.int .i64 C.e) rfl (by kernel_rfl) rfl (by simp [execOp, go_sem, Act.put, hsz, s2, s3, s4]) hSf ?_
      refine wpAnyH_done (by kernel_rfl) ?_ _
      generalize XB = XX at *
      subst ha0
      clear hsz s2 s3 s4
      clear huf hBf zz q0 q1 q2 f0 f1 f2
      go_simp
      go_wp2_with fail
      go_meet
      case rel => exact ⟨XX, rfl, rfl, rfl, hSf, hXf⟩
  case rest =>
  obtain ⟨X9, rfl, rfl, rfl, HX⟩ := hcut
  rename World => wJ
  have HBwJ : Hid (Below w2.heap.size w2 wJ) := bsq HBwI.out HX.out.1
  have HRTk := HRT.out k t HK.out
  have HROk := HRO.out k t HK.out
  rw [HYC.out]
  simp only
  clear HX HCC HRT HRO d17 hn1 hn2
  generalize dtxt (strOfNums t) = DT at *
  go_wp2_with fail
  refine (HRTk _).mono ?_
  rintro e wK ⟨rfl, hbK⟩
  have HBK : Hid (Below w2.heap.size w2 wK) := bsq HBwJ.out hbK
  clear hbK
  have d17 := (ShC.of (HS.out wK HBK.out)).c17
  obtain ⟨g, off, rfl, k0⟩ := Rts.at' (HTt.out wK HBK.out) k t HK.out.2
  have hkn : k < tn := HK.out.1
  obtain ⟨wz3, wz4⟩ := n_less HNK.out HK8.out
  clear wz1 wz2
  generalize strOfNums t = P at *
  go_wp2_with fail
  refine (HROk _).mono ?_
  rintro e wM ⟨rfl, hbM⟩
  have HBM : Hid (Below w2.heap.size w2 wM) := bsq HBK.out hbM
  clear hbM
  go_wp2
  go_ret
  exact ⟨rfl, bsq HB2.out HBM.out⟩
end Go.Proofs.Ytebaepkghbihkaa.gadgetTells
