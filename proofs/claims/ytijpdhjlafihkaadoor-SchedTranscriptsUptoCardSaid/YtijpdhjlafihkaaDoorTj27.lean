/-
  infoOf: a number in two bytes, a label behind a prefix, a context, the latter two behind their lengths.
-/
import Derived.Test.YtijpdhjlafihkaaDoorTj26
namespace Go.Proofs.YtijpdhjlafihkaaDoor.Ap
open Go.RowKit
set_option linter.unusedVariables false
set_option maxRecDepth 100000

theorem chg_conv (w : World) (s : ByteArray) : Chg Non w (Lib.bytesWorld w 5 s) :=
  ⟨rfl, rfl, rfl, by rw [Lib.bytesWorld_size]; omega, fun k hk _ => Lib.bytesWorld_at_old w 5 s k hk⟩
def bI (l : List UInt8) : List Int := l.map (fun c => (c.toNat : Int))
theorem bI_len (l : List UInt8) : (bI l).length = l.length := by simp [bI]
theorem bI_byte (l : List UInt8) : ∀ x ∈ bI l, 0 ≤ x ∧ x < 256 := by
  intro x hx
  obtain ⟨c, _, rfl⟩ := List.mem_map.1 hx
  have := c.toNat_lt
  omega
theorem conv_rd (w : World) (s : ByteArray) (hl : s.size ≤ 140737488355328) : Rd (Lib.bytesWorld w 5 s) (.slice (some ⟨w.heap.size, 0, none⟩) s.size (grownCap w s.size 0 5)) (bI s.data.toList) := by
  refine ⟨_, _, _, rfl, by rw [bI_len]; simp, ?_, ?_, fun e => by (cases e), fun a e j u hj => ?_⟩
  · exact grownCap_ge w _ 0 5
  · exact grownCap_le_maxLen w _ 0 5 (by unfold maxLen; omega)
  · injection e with e
    subst e
    have hlt := (List.getElem?_eq_some_iff.1 hj).1
    rw [bI_len] at hlt
    have hlt' : j < s.size := by simpa using hlt
    have h1 := Lib.bytesWorld_cell w 5 s (0 + j) (by omega)
    have ha : (⟨w.heap.size, 0, none⟩ : Addr).add j = ⟨w.heap.size, 0 + j, none⟩ := by unfold Addr.add; split <;> simp_all
    rw [ha, h1, Nat.zero_add]
    have h2 : (bI s.data.toList)[j]? = some (((s.data.toList).getD j 0).toNat : Int) := by
      unfold bI
      rw [List.getElem?_map, List.getElem?_eq_getElem hlt, List.getD_eq_getElem?_getD, List.getElem?_eq_getElem hlt]
      rfl
    rw [h2] at hj
    injection hj with hj
    rw [hj]

def tls : ByteArray := ⟨#[116, 108, 115, 49, 51, 32]⟩
/-- What a secret is expanded with, as bytes. -/
def infoB (S : ByteArray) (xs : List Int) (u : Nat) : List UInt8 :=
  two u ++ [UInt8.ofNat (tls ++ S).size] ++ (tls ++ S).data.toList ++ [UInt8.ofNat (strOfNums xs).size] ++ (strOfNums xs).data.toList
theorem infoB_len (S : ByteArray) (xs : List Int) (u : Nat) : (infoB S xs u).length = 10 + S.size + (strOfNums xs).size := by
  have h1 : (tls ++ S).data.toList.length = 6 + S.size := by
    simp [tls]
    omega
  have h2 : (strOfNums xs).data.toList.length = (strOfNums xs).size := by simp
  unfold infoB two
  simp only [List.length_append, List.length_cons, List.length_nil, h1, h2]
  omega

set_option maxHeartbeats 8000000 in
theorem infoOf_any (S : ByteArray) (vx : Value) (xs : List Int) (n : Int) (w : World) (hx : Rd w vx xs) (hS : S.size ≤ 1000000000000) (hxl : (strOfNums xs).size ≤ 1000000000000) :
    Calls Tryd.prog 30 #[.string S, vx, .int .i64 n] w fun e w' => ∃ g m c, e = .returned (.slice (some ⟨g, 0, none⟩) m c) ∧ Chg Non w w' ∧ Rd w' (.slice (some ⟨g, 0, none⟩) m c) (bI (infoB S xs (IntKind.u64.wrap n).toNat)) := by
  obtain ⟨u, hu⟩ : ∃ u, u = (IntKind.u64.wrap n).toNat := ⟨_, rfl⟩
  have hun : IntKind.u64.wrap n = (u : Int) := by
    rw [hu]
    have : 0 ≤ IntKind.u64.wrap n := by rw [IntKind.wrap_u64]; omega
    omega
  have hul : u < 18446744073709551616 := by
    have : IntKind.u64.wrap n < 18446744073709551616 := by rw [IntKind.wrap_u64]; omega
    omega
  rw [← hu]
  obtain ⟨ao, m, c, rfl, -⟩ := hx.shape
  have HCV : Hid (∀ q, Chg Non w q → (convert 23 9 (.slice ao m c)).run Tryd.prog q = .ok (.string (strOfNums xs)) q) := fun q hq => run_str q _ _ (hx.keep (fun k _ hk => hq.block k hk (fun s => s)))
  obtain ⟨W, hW⟩ : ∃ W, W = (((w.alloc (.cells #[.pointer none, .slice none 0 0] 67)).alloc (.cells #[f58 w.heap.size] 81)).alloc (.cells #[f58 w.heap.size] 81)).alloc (.cells #[f60 w.heap.size] 84) := ⟨_, rfl⟩
  have HE : Hid (EN w W w.heap.size (w.heap.size + 1) (w.heap.size + 1 + 1) (w.heap.size + 1 + 1 + 1) (.slice none 0 0) []) := by
    have t0 : TB w (w.alloc (.cells #[.pointer none, .slice none 0 0] 67)) w.heap.size (.slice none 0 0) [] := ⟨Bld.fresh w, (fun k e => by
      rcases e with rfl | e
      · exact Nat.le_refl _
      · cases e), (Below.refl _ w).alloc (Nat.le_refl _) _⟩
    have c1 : Chg Non (w.alloc (.cells #[.pointer none, .slice none 0 0] 67)) W := by rw [hW]; exact (((Chg.refl _ _).alloc _).alloc _).alloc _
    refine ⟨t0.wrote ⟨t0.bld.keep c1, c1.non _, fun i e => .inl e⟩, ?_, ?_, ?_, fun k e => ?_⟩
    · rw [hW, Below.heap_alloc _ _ _ (by simp), Below.heap_alloc _ _ _ (by simp)]
      simpa using heap_alloc_new (w.alloc (.cells #[.pointer none, .slice none 0 0] 67)) (.cells #[f58 w.heap.size] 81)
    · rw [hW, Below.heap_alloc _ _ _ (by simp)]
      simpa using heap_alloc_new ((w.alloc (.cells #[.pointer none, .slice none 0 0] 67)).alloc (.cells #[f58 w.heap.size] 81)) (.cells #[f58 w.heap.size] 81)
    · rw [hW]
      simpa using heap_alloc_new (((w.alloc (.cells #[.pointer none, .slice none 0 0] 67)).alloc (.cells #[f58 w.heap.size] 81)).alloc (.cells #[f58 w.heap.size] 81)) (.cells #[f60 w.heap.size] 84)
    · rcases e with rfl | e
      · exact ⟨by omega, by omega, by omega⟩
      · cases e
  have HW : Hid (W = (((w.alloc (.cells #[.pointer none, .slice none 0 0] 67)).alloc (.cells #[f58 w.heap.size] 81)).alloc (.cells #[f58 w.heap.size] 81)).alloc (.cells #[f60 w.heap.size] 84)) := hW
  have HL : Hid (S.size ≤ 1000000000000 ∧ (strOfNums xs).size ≤ 1000000000000) := ⟨hS, hxl⟩
  have htl : (tls ++ S).size = 6 + S.size := by
    rw [ByteArray.size_append]
    rfl
  have hd := dig2_any w w.heap.size (w.heap.size + 1) (w.heap.size + 1 + 1) (w.heap.size + 1 + 1 + 1) _ [] u W hul HE.out (by simp)
  clear hx hW hS hxl hu hul
  go_enter Tryd.func30, Tryd.ntmps30
  go_wp2_with (first | (go_at_call 42; refine (digits_mk _ _).mono ?_; rintro e w1 ⟨rfl, rfl⟩) | (go_at_call 43; refine (counted_mk _ _).mono ?_; rintro e w1 ⟨rfl, rfl⟩))
  rw [← HW.out]
  go_wp2_with (go_at_call 59; refine hd.mono ?_)
  rintro e w1 ⟨rfl, v1, hE1⟩
  have HE1 : Hid (EN w w1 w.heap.size (w.heap.size + 1) (w.heap.size + 1 + 1) (w.heap.size + 1 + 1 + 1) v1 ([] ++ two u)) := hE1
  clear hd hE1
  obtain ⟨S6, hS6⟩ : ∃ S6, S6 = tls ++ S := ⟨_, rfl⟩
  rw [← hS6] at htl
  have hd := part_any w w.heap.size (w.heap.size + 1) (w.heap.size + 1 + 1) (w.heap.size + 1 + 1 + 1) v1 ([] ++ two u) S6 w1 HE1.out (by rw [htl]; have := HL.out.1; simp only [List.nil_append, two, List.length_cons, List.length_nil]; omega)
  have HS6 : Hid (S6 = tls ++ S ∧ S6.size = 6 + S.size) := ⟨hS6, htl⟩
  have hadd : (⟨#[116, 108, 115, 49, 51, 32]⟩ ++ S : ByteArray) = S6 := hS6.symm
  have hcat : ¬ (9223372036854775807 < 6 + S.size) := by have := HL.out.1; omega
  clear hS6 htl
  go_wp2_with (go_at_call 61; refine hd.mono ?_)
  rintro e w2 ⟨rfl, v2, hE2⟩
  have HE2 : Hid (EN w w2 w.heap.size (w.heap.size + 1) (w.heap.size + 1 + 1) (w.heap.size + 1 + 1 + 1) v2 ([] ++ two u ++ [UInt8.ofNat S6.size] ++ S6.data.toList)) := hE2
  clear hd hE2 hadd hcat
  have hcv := HCV.out w2 (low_non HE2.out.tb.low)
  have hd := part_any w w.heap.size (w.heap.size + 1) (w.heap.size + 1 + 1) (w.heap.size + 1 + 1 + 1) v2 _ (strOfNums xs) w2 HE2.out (by
    have h1 := HL.out
    have h2 := HS6.out.2
    have h3 : S6.data.toList.length = S6.size := by simp
    simp only [List.nil_append, two, List.length_append, List.length_cons, List.length_nil, h3]
    omega)
  obtain ⟨X, hX⟩ : ∃ X, X = strOfNums xs := ⟨_, rfl⟩
  rw [← hX] at hcv hd
  have HX : Hid (X = strOfNums xs) := hX
  clear hX
  go_wp2_with (go_at_call 61; refine hd.mono ?_)
  rintro e w3 ⟨rfl, v3, hE3⟩
  have HT : Hid (TB w w3 w.heap.size v3 (infoB S xs u)) := by
    have h1 := hE3.tb
    rw [HX.out, HS6.out.1] at h1
    exact h1
  clear hd hE3 hcv
  obtain ⟨l, hl⟩ : ∃ l, l = infoB S xs u := ⟨_, rfl⟩
  have hlen := infoB_len S xs u
  have hT : TB w w3 w.heap.size v3 l := by rw [hl]; exact HT.out
  have hs := String_any w.heap.size v3 l w w3 hT (fun e => by rw [← hl, e] at hlen; simp at hlen; omega)
  have HB : Hid (l = infoB S xs u ∧ l.length ≤ 140737488355328) := ⟨hl, by rw [hl, hlen]; have := HL.out; omega⟩
  clear hl hlen hT
  go_wp2_with (go_at_call 44; refine hs.mono ?_)
  rintro e w4 ⟨rfl, hb4⟩
  have HB4 : Hid (Below w.heap.size w w4) := hb4
  have hcv := Lib.run_convert_string_bytes (P := Tryd.prog) w4 9 23 5 ⟨l.toArray⟩ Tryd.underlying9 Tryd.underlying23 Tryd.underlying5
  clear hs hb4
  go_wp2_with fail
  go_ret
  have h5 := conv_rd w4 ⟨l.toArray⟩ (by have := HB.out.2; simpa [ByteArray.size] using this)
  refine ⟨_, _, _, rfl, ((low_non HB4.out).trans (chg_conv w4 _) (fun _ _ e => e)), ?_⟩
  rw [← HB.out.1]
  have h6 : (⟨l.toArray⟩ : ByteArray).data.toList = l := by simp
  rw [h6] at h5
  exact h5
end Go.Proofs.YtijpdhjlafihkaaDoor.Ap
