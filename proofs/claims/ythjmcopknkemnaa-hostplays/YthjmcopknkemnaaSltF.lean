/- slots: several boxes at once; what enable, address, mark, nextState, isSet and configure answer. -/
import Derived.Test.YthjmcopknkemnaaSltD
import Derived.Laws.BitsAllLaws
import Derived.Laws.BitsLemmas
namespace Go.Proofs.Ythjmcopknkemnaa.slots
open Go Go.RowKit
set_option linter.unusedVariables false
set_option linter.unusedSimpArgs false
set_option maxRecDepth 100000

abbrev Bk := Nat × TypeId × List Int
/-- the boxes of a call, and what was there ahead of it -/
structure Mm (w u : World) (L : List Bk) : Prop where
  lies : ∀ x ∈ L, u.heap[x.1]? = some (bx x.2.1 x.2.2)
  own : ∀ x ∈ L, w.heap.size ≤ x.1
  ap : (L.map (·.1)).Nodup
  below : Below w.heap.size w u
theorem Mm.nil (w : World) : Mm w w [] := ⟨fun x h => absurd h (by simp), fun x h => absurd h (by simp), List.nodup_nil, Below.refl _ _⟩
theorem Mm.new {w u v : World} {L : List Bk} {B : Nat} {T : TypeId} {l : List Int} (h : Mm w u L) (n : New u v B T l) : Mm w v ((B, T, l) :: L) where
  lies := fun x hx => by
    rcases List.mem_cons.1 hx with rfl | q
    · exact n.lies
    · exact keep (h.lies x q) n.below
  own := fun x hx => by
    rcases List.mem_cons.1 hx with rfl | q
    · show w.heap.size ≤ B; rw [n.at']; exact h.below.size
    · exact h.own x q
  ap := by
    rw [List.map_cons, List.nodup_cons]
    refine ⟨fun q => ?_, h.ap⟩
    obtain ⟨y, hy, e⟩ := List.mem_map.1 q
    have h1 := bx_lt (h.lies y hy)
    have h2 : y.1 = u.heap.size := e.trans n.at'
    omega
  below := bsq h.below n.below
theorem Mm.call {w u v : World} {L : List Bk} (h : Mm w u L) (hb : Below u.heap.size u v) : Mm w v L := ⟨fun x hx => keep (h.lies x hx) hb, h.own, h.ap, bsq h.below hb⟩
theorem Mm.put {w u v : World} {pre post : List Bk} {B : Nat} {T : TypeId} {l l' : List Int} (h : Mm w u (pre ++ (B, T, l) :: post)) (hc : Chg B u v) (hl : v.heap[B]? = some (bx T l')) : Mm w v (pre ++ (B, T, l') :: post) := by
  have hap := h.ap
  rw [List.map_append, List.map_cons, List.nodup_append] at hap
  obtain ⟨hp, hq, hpq⟩ := hap
  rw [List.nodup_cons] at hq
  refine ⟨fun x hx => ?_, fun x hx => ?_, ?_, hc.below _ _ (h.own (B, T, l) (by simp)) h.below⟩
  · rcases List.mem_append.1 hx with q | q
    · rw [hc.other x.1 (fun e => hpq x.1 (List.mem_map.2 ⟨x, q, rfl⟩) B (by simp) e)]
      exact h.lies x (List.mem_append.2 (.inl q))
    · rcases List.mem_cons.1 q with rfl | q
      · exact hl
      · rw [hc.other x.1 (fun e => hq.1 (List.mem_map.2 ⟨x, q, e⟩))]
        exact h.lies x (List.mem_append.2 (.inr (List.mem_cons_of_mem _ q)))
  · rcases List.mem_append.1 hx with q | q
    · exact h.own x (List.mem_append.2 (.inl q))
    · rcases List.mem_cons.1 q with rfl | q
      · exact h.own (B, T, l) (by simp)
      · exact h.own x (List.mem_append.2 (.inr (List.mem_cons_of_mem _ q)))
  · have := h.ap
    rw [List.map_append, List.map_cons] at this ⊢
    exact this
section
variable {w u v : World} {a b c d f : Bk} {L : List Bk} {B : Nat} {T : TypeId} {l l' : List Int}
theorem Mm.at0 (h : Mm w u ((B, T, l) :: L)) : u.heap[B]? = some (bx T l) := h.lies (B, T, l) (by simp)
theorem Mm.at1 (h : Mm w u (a :: (B, T, l) :: L)) : u.heap[B]? = some (bx T l) := h.lies (B, T, l) (by simp)
theorem Mm.at2 (h : Mm w u (a :: b :: (B, T, l) :: L)) : u.heap[B]? = some (bx T l) := h.lies (B, T, l) (by simp)
theorem Mm.at3 (h : Mm w u (a :: b :: c :: (B, T, l) :: L)) : u.heap[B]? = some (bx T l) := h.lies (B, T, l) (by simp)
theorem Mm.at4 (h : Mm w u (a :: b :: c :: d :: (B, T, l) :: L)) : u.heap[B]? = some (bx T l) := h.lies (B, T, l) (by simp)
theorem Mm.at5 (h : Mm w u (a :: b :: c :: d :: f :: (B, T, l) :: L)) : u.heap[B]? = some (bx T l) := h.lies (B, T, l) (by simp)
theorem Mm.put0 (h : Mm w u ((B, T, l) :: L)) (hc : Chg B u v) (hl : v.heap[B]? = some (bx T l')) : Mm w v ((B, T, l') :: L) := Mm.put (pre := []) h hc hl
theorem Mm.put1 (h : Mm w u (a :: (B, T, l) :: L)) (hc : Chg B u v) (hl : v.heap[B]? = some (bx T l')) : Mm w v (a :: (B, T, l') :: L) := Mm.put (pre := [a]) h hc hl
theorem Mm.put2 (h : Mm w u (a :: b :: (B, T, l) :: L)) (hc : Chg B u v) (hl : v.heap[B]? = some (bx T l')) : Mm w v (a :: b :: (B, T, l') :: L) := Mm.put (pre := [a, b]) h hc hl
theorem Mm.put3 (h : Mm w u (a :: b :: c :: (B, T, l) :: L)) (hc : Chg B u v) (hl : v.heap[B]? = some (bx T l')) : Mm w v (a :: b :: c :: (B, T, l') :: L) := Mm.put (pre := [a, b, c]) h hc hl
theorem Mm.put4 (h : Mm w u (a :: b :: c :: d :: (B, T, l) :: L)) (hc : Chg B u v) (hl : v.heap[B]? = some (bx T l')) : Mm w v (a :: b :: c :: d :: (B, T, l') :: L) := Mm.put (pre := [a, b, c, d]) h hc hl
theorem Mm.put5 (h : Mm w u (a :: b :: c :: d :: f :: (B, T, l) :: L)) (hc : Chg B u v) (hl : v.heap[B]? = some (bx T l')) : Mm w v (a :: b :: c :: d :: f :: (B, T, l') :: L) := Mm.put (pre := [a, b, c, d, f]) h hc hl
end
theorem ld_var {w : World} {B n : Nat} {T t : TypeId} {l : List Int} (hT : Row t n) (h : w.heap[B]? = some (bx T l)) (hl : l.length = n) : (loadVar t ⟨B, 0, none⟩).run Try.prog w = .ok (ag l) w := by
  have := run_load (k := 0) hT h (by omega)
  rw [cut_all hl] at this
  simpa only [Instr.loadAt, Instr.sureAddr, Sem.run_bind, Sem.run_pure, Result.andThen_ok] using this
theorem ret_1 {fn : Func} {p : Tmp} {t : TypeId} {tmps : Array Value} {w : World} {B : Nat} {v : Value} (h : fn.results = #[.cell p t]) (hp : tmps.getD p undef = .pointer (some ⟨B, 0, none⟩)) (hl : (loadVar t ⟨B, 0, none⟩).run Try.prog w = .ok v w) :
    (results fn tmps).run Try.prog w = .ok v w := by
  have hp' : tmps[p]?.getD undef = .pointer (some ⟨B, 0, none⟩) := by simpa using hp
  simp [results, h, hp', asAddr, hl]
theorem ret_2 {fn : Func} {p i : Tmp} {t : TypeId} {tmps : Array Value} {w : World} {B : Nat} {v v1 : Value} (h : fn.results = #[.cell p t, .tmp i]) (hp : tmps.getD p undef = .pointer (some ⟨B, 0, none⟩)) (hl : (loadVar t ⟨B, 0, none⟩).run Try.prog w = .ok v w)
    (h1 : tmps.getD i undef = v1) : (results fn tmps).run Try.prog w = .ok (.tuple #[v, v1]) w := by
  have hp' : tmps[p]?.getD undef = .pointer (some ⟨B, 0, none⟩) := by simpa using hp
  have h1' : tmps[i]?.getD undef = v1 := by simpa using h1
  simp [results, h, hp', asAddr, hl, h1']
theorem ret_3 {fn : Func} {p i j : Tmp} {t : TypeId} {tmps : Array Value} {w : World} {B : Nat} {v v1 v2 : Value} (h : fn.results = #[.cell p t, .tmp i, .tmp j]) (hp : tmps.getD p undef = .pointer (some ⟨B, 0, none⟩)) (hl : (loadVar t ⟨B, 0, none⟩).run Try.prog w = .ok v w)
    (h1 : tmps.getD i undef = v1) (h2 : tmps.getD j undef = v2) : (results fn tmps).run Try.prog w = .ok (.tuple #[v, v1, v2]) w := by
  have hp' : tmps[p]?.getD undef = .pointer (some ⟨B, 0, none⟩) := by simpa using hp
  have h1' : tmps[i]?.getD undef = v1 := by simpa using h1
  have h2' : tmps[j]?.getD undef = v2 := by simpa using h2
  simp [results, h, hp', asAddr, hl, h1', h2']
set_option maxHeartbeats 4000000 in
theorem address_any (s : List Int) (x : Int) (w : World) (hs : s.length = 66) : Calls Try.prog 91 #[ag s, .int .i64 x] w fun e w' => e = .returned (.tuple #[ag (adr s x).1, .int .i64 (adr s x).2]) ∧ Below w.heap.size w w' := by
  have HL : Hid (s.length = 66) := hs
  have HE : Hid (0 + 66 ≤ s.length) := by show 0 + 66 ≤ _; omega
  have HC : Hid (cut s 0 66 = s) := cut_all hs
  have H0 : Hid (s[0]? = some (cl s 0)) := cl_at (by omega)
  have hM := Mm.nil w
  by_cases h1 : ¬ cl s 0 = 1
  · have HQ : Hid (adr s x = (s, 19)) := by show adr s x = _; unfold adr st; rw [if_neg h1]
    have e1 : (cl s 0 != 1) = true := by simpa using h1
    clear hs h1
    go_enter Try.func91, Try.ntmps91
    repeat' (first | (go_big_may; first | (refine a_box rfl rfl rfl ?_; intro u zb hN; replace hM := hM.new hN; clear hN) | (refine a_alloc rfl zer_slot rfl ?_; intro u zb hN; replace hM := hM.new hN; clear hN) | (refine a_get rfl rfl rfl hM.at1 H0.out ?_) | (refine a_load rfl rfl row_slot rfl hM.at1 HE.out HC.out ?_) | (refine a_fill rfl rfl row_slot rfl rfl hM.at0 HL.out List.length_replicate ?_; intro u hv hc; replace hM := hM.put0 hc hv; clear hv hc)) | go_values | go_skip | go_guarded | go_step | go_upon | (simp only [Int.not_lt, Int.not_le] at *; go_simp))
    rw [HQ.out]
    exact bodyPost_ret (ret_2 Try.results91 rfl (ld_var row_slot hM.at0 HL.out) rfl) rfl ⟨rfl, hM.below⟩
  have h1 : cl s 0 = 1 := by omega
  have HQ : Hid (adr s x = (((s.set 0 2).set 1 x).set 3 1, 1)) := by show adr s x = _; unfold adr st; rw [if_pos h1]
  have e1 : (cl s 0 != 1) = false := by simpa using h1
  have HC2 : Hid (cut (((s.set 0 2).set 1 x).set 3 1) 0 66 = ((s.set 0 2).set 1 x).set 3 1) := cut_all (by simp [hs])
  have HL2 : Hid ((((s.set 0 2).set 1 x).set 3 1).length = 66) := by show _ = 66; simp [hs]
  clear hs h1
  go_enter Try.func91, Try.ntmps91
  repeat' (first | (go_big_may; first | (refine a_box rfl rfl rfl ?_; intro u zb hN; replace hM := hM.new hN; clear hN) | (refine a_alloc rfl zer_slot rfl ?_; intro u zb hN; replace hM := hM.new hN; clear hN) | (refine a_get rfl rfl rfl hM.at1 H0.out ?_) | (refine a_put rfl rfl rfl rfl hM.at1 (by simp [HL.out]) ?_; intro u hv hc; replace hM := hM.put1 hc hv; clear hv hc) | (refine a_load rfl rfl row_slot rfl hM.at1 (by simp [HL.out]) HC2.out ?_) | (refine a_fill rfl rfl row_slot rfl rfl hM.at0 HL2.out List.length_replicate ?_; intro u hv hc; replace hM := hM.put0 hc hv; clear hv hc)) | go_values | go_skip | go_guarded | go_step | go_upon | (simp only [Int.not_lt, Int.not_le] at *; go_simp))
  rw [HQ.out]
  exact bodyPost_ret (ret_2 Try.results91 rfl (ld_var row_slot hM.at0 HL2.out) rfl) rfl ⟨rfl, hM.below⟩
theorem nextState_any (k e : Int) (w : World) : Calls Try.prog 100 #[.int .i64 k, .int .i64 e] w fun r w' => r = .returned (.tuple #[.int .i64 (nxt k e).1, .bool (nxt k e).2]) ∧ w = w' := by
  unfold nxt
  by_cases h6 : k = 6
  · subst h6
    rw [if_pos rfl]
    go_enter Try.func100, Try.ntmps100; go_wp2; go_ret2; exact ⟨rfl, rfl⟩
  rw [if_neg h6]
  by_cases h7 : k = 7
  · subst h7
    rw [if_pos rfl]
    go_enter Try.func100, Try.ntmps100; go_wp2; go_ret2; exact ⟨rfl, rfl⟩
  rw [if_neg h7]
  have e6 : (k == 6) = false := by simpa using h6
  have e7 : (k == 7) = false := by simpa using h7
  clear h6 h7
  cases h3 : (e == 3)
  · go_enter Try.func100, Try.ntmps100; go_wp2; go_ret2; exact ⟨rfl, rfl⟩
  · go_enter Try.func100, Try.ntmps100; go_wp2; go_ret2; exact ⟨rfl, rfl⟩
set_option maxHeartbeats 4000000 in
theorem mark_any (s : List Int) (e : Nat) (a : Int) (w : World) (hs : s.length = 66) (he : e < 32) : Calls Try.prog 99 #[ag s, .int .i64 (e : Int), .int .i64 a] w fun r w' => r = .returned (.tuple #[ag (mrk s e a).1, .int .i64 (mrk s e a).2]) ∧ Below w.heap.size w w' := by
  have HL : Hid (s.length = 66) := hs
  have HE : Hid (0 + 66 ≤ s.length) := by show 0 + 66 ≤ _; omega
  have HC : Hid (cut s 0 66 = s) := cut_all hs
  have H0 : Hid (s[2 + e]? = some (cl s (2 + e))) := cl_at (by omega)
  have HK : Hid (∀ u, Calls Try.prog 102 #[.int .i64 a] u fun e w' => e = .returned (.bool (mkB a)) ∧ u = w') := isMark_any a
  have hM := Mm.nil w
  cases hb : mkB a
  · have HQ : Hid (mrk s e a = (s, 17)) := by show mrk s e a = _; unfold mrk; rw [if_pos hb]
    rw [hb] at HK
    clear hs hb
    go_enter Try.func99, Try.ntmps99
    repeat' (first | (go_big_may; first | (refine a_box rfl rfl rfl ?_; intro u zb hN; replace hM := hM.new hN; clear hN) | (refine a_alloc rfl zer_slot rfl ?_; intro u zb hN; replace hM := hM.new hN; clear hN)) | go_values | go_skip | go_guarded | go_step | go_upon | (simp only [Int.not_lt, Int.not_le] at *; go_simp))
    refine (HK.out _).mono ?_
    rintro r u ⟨rfl, rfl⟩
    repeat' (first | (go_big_may; first | (refine a_load rfl rfl row_slot rfl hM.at1 HE.out HC.out ?_) | (refine a_fill rfl rfl row_slot rfl rfl hM.at0 HL.out List.length_replicate ?_; intro u hv hc; replace hM := hM.put0 hc hv; clear hv hc)) | go_values | go_skip | go_guarded | go_step | go_upon | (simp only [Int.not_lt, Int.not_le] at *; go_simp))
    rw [HQ.out]
    exact bodyPost_ret (ret_2 Try.results99 rfl (ld_var row_slot hM.at0 HL.out) rfl) rfl ⟨rfl, hM.below⟩
  rw [hb] at HK
  by_cases h3 : ¬ cl s (2 + e) = 3
  · have HQ : Hid (mrk s e a = (s, 19)) := by show mrk s e a = _; unfold mrk en; rw [hb, if_neg (by simp), if_neg h3]
    have e1 : (cl s (2 + e) != 3) = true := by simpa using h3
    clear hs hb h3
    go_enter Try.func99, Try.ntmps99
    repeat' (first | (go_big_may; first | (refine a_box rfl rfl rfl ?_; intro u zb hN; replace hM := hM.new hN; clear hN) | (refine a_alloc rfl zer_slot rfl ?_; intro u zb hN; replace hM := hM.new hN; clear hN)) | go_values | go_skip | go_guarded | go_step | go_upon | (simp only [Int.not_lt, Int.not_le] at *; go_simp))
    refine (HK.out _).mono ?_
    rintro r u ⟨rfl, rfl⟩
    repeat' (first | (go_big_may; first | (refine a_get rfl rfl rfl hM.at1 H0.out ?_) | (refine a_load rfl rfl row_slot rfl hM.at1 HE.out HC.out ?_) | (refine a_fill rfl rfl row_slot rfl rfl hM.at0 HL.out List.length_replicate ?_; intro u hv hc; replace hM := hM.put0 hc hv; clear hv hc)) | go_values | go_skip | go_guarded | go_step | go_upon | (simp only [Int.not_lt, Int.not_le] at *; go_simp))
    rw [HQ.out]
    exact bodyPost_ret (ret_2 Try.results99 rfl (ld_var row_slot hM.at0 HL.out) rfl) rfl ⟨rfl, hM.below⟩
  have h3 : cl s (2 + e) = 3 := by omega
  have HQ : Hid (mrk s e a = (s.set (34 + e) a, 1)) := by show mrk s e a = _; unfold mrk en; rw [hb, if_neg (by simp), if_pos h3]
  have e1 : (cl s (2 + e) != 3) = false := by simpa using h3
  have HL2 : Hid ((s.set (34 + e) a).length = 66) := by show _ = 66; simp [hs]
  have HC2 : Hid (cut (s.set (34 + e) a) 0 66 = s.set (34 + e) a) := cut_all HL2.out
  have HE2 : Hid (0 + 66 ≤ (s.set (34 + e) a).length) := by show 0 + 66 ≤ _; rw [HL2.out]; omega
  have H34 : Hid (34 + e < s.length) := by show 34 + e < s.length; omega
  clear hs hb h3
  go_enter Try.func99, Try.ntmps99
  repeat' (first | (go_big_may; first | (refine a_box rfl rfl rfl ?_; intro u zb hN; replace hM := hM.new hN; clear hN) | (refine a_alloc rfl zer_slot rfl ?_; intro u zb hN; replace hM := hM.new hN; clear hN)) | go_values | go_skip | go_guarded | go_step | go_upon | (simp only [Int.not_lt, Int.not_le] at *; go_simp))
  refine (HK.out _).mono ?_
  rintro r u ⟨rfl, rfl⟩
  repeat' (first | (go_big_may; first | (refine a_get rfl rfl rfl hM.at1 H0.out ?_) | (refine a_put rfl rfl rfl rfl hM.at1 H34.out ?_; intro u hv hc; replace hM := hM.put1 hc hv; clear hv hc) | (refine a_load rfl rfl row_slot rfl hM.at1 HE2.out HC2.out ?_) | (refine a_fill rfl rfl row_slot rfl rfl hM.at0 HL2.out List.length_replicate ?_; intro u hv hc; replace hM := hM.put0 hc hv; clear hv hc)) | go_values | go_skip | go_guarded | go_step | go_upon | (simp only [Int.not_lt, Int.not_le] at *; go_simp))
  rw [HQ.out]
  exact bodyPost_ret (ret_2 Try.results99 rfl (ld_var row_slot hM.at0 HL2.out) rfl) rfl ⟨rfl, hM.below⟩
theorem i64_and3 (n : Int) : bits .and .i64 n 3 = n % 4 := by
  have h3 : (BitVec.ofInt 64 3).toNat = 2 ^ 2 - 1 := by decide
  have key : (BitVec.ofInt 64 n &&& BitVec.ofInt 64 3).toNat = (n % ((2 ^ 64 : Nat) : Int)).toNat % 2 ^ 2 := by
    rw [BitVec.toNat_and, BitVec.toNat_ofInt, h3, Nat.and_two_pow_sub_one_eq_mod]
  show IntKind.i64.wrap ((BitVec.ofInt 64 n &&& BitVec.ofInt 64 3).toNat : Nat) = n % 4
  rw [key, IntKind.wrap_i64]
  omega
theorem i64_and1 (n : Int) : bits .and .i64 n 1 = n % 2 := by
  have h3 : (BitVec.ofInt 64 1).toNat = 2 ^ 1 - 1 := by decide
  have key : (BitVec.ofInt 64 n &&& BitVec.ofInt 64 1).toNat = (n % ((2 ^ 64 : Nat) : Int)).toNat % 2 ^ 1 := by
    rw [BitVec.toNat_and, BitVec.toNat_ofInt, h3, Nat.and_two_pow_sub_one_eq_mod]
  show IntKind.i64.wrap ((BitVec.ofInt 64 n &&& BitVec.ofInt 64 1).toNat : Nat) = n % 2
  rw [key, IntKind.wrap_i64]
  omega
theorem isSet_any (a : Int) (w : World) (h1 : -9223372036854775808 ≤ a) (h2 : a ≤ 9223372036854775807) : Calls Try.prog 98 #[.int .i64 a] w fun e w' => e = .returned (.bool (stB a)) ∧ w = w' := by
  unfold stB
  cases q1 : decide (0 ≤ a)
  · go_enter Try.func98, Try.ntmps98; go_wp2; go_ret; exact ⟨rfl, rfl⟩
  · cases q2 : decide (a ≤ 4294967295)
    · go_enter Try.func98, Try.ntmps98; go_wp2; go_ret; exact ⟨rfl, rfl⟩
    · have q1' := of_decide_eq_true q1
      have q2' := of_decide_eq_true q2
      have hb := i64_and3 a
      generalize a % 4 = m at *
      go_enter Try.func98, Try.ntmps98; go_wp2; go_ret; exact ⟨by simp; rfl, rfl⟩
end Go.Proofs.Ythjmcopknkemnaa.slots
