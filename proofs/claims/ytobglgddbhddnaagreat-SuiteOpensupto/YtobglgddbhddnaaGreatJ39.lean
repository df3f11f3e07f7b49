/-
  The suites as locks: what Seal and Open do with a key that fits, by gcm and by chacha; the program's and the document's.
  The live question of layer 10: its answer, reckoned.
  The law of Seal: walked over whatever the suite does.
-/
import Derived.Test.YtobglgddbhddnaaGreatJ37
import Derived.Test.YtobglgddbhddnaaGreatJ38
import Derived.Test.YtobglgddbhddnaaGreatJ19
import Derived.Test.YtobglgddbhddnaaGreatJ34
import Derived.Test.YtobglgddbhddnaaGreatJ11
import Derived.Test.YtobglgddbhddnaaGreatJ08
namespace Go.Proofs.YtobglgddbhddnaaGreat
open Go.RowKit
set_option linter.unusedVariables false

theorem nilEx {f : Nat} {vs : Array Value} {u : World} {e : Int} (h : Calls Tryz.prog f vs u fun r w' => r = .returned (.tuple #[.slice none 0 0, .int .i64 e]) ∧ Chg u w') : Calls Tryz.prog f vs u fun r w' => ∃ v, r = .returned (.tuple #[v, .int .i64 e]) ∧ True ∧ Chg u w' := h.mono fun r w' ⟨h1, h2⟩ => ⟨_, h1, trivial, h2⟩
theorem hPr (L : List Int) : ∀ v u u', Ap.Rd u v L → Chg u u' → Ap.Rd u' v L := fun v u u' h k => Rd.chg h k
theorem sealG_ok (s h n : Int) (hf : fndV s = .iface 48 (.agg (lkG h n))) (hb : fndB s = true) (ao : Option Addr) (L cap : Nat) (nc : Nat → By) (va vx : Value) (u : World) (hL : (L : Int) = n) (LS : List Int) (HS : ∀ u', Chg u u' → Calls Tryz.prog 27 #[.slice ao L cap, .agg (ba 12 nc), va, vx] u' fun r w' => ∃ v, r = .returned (.tuple #[v, .int .i64 0]) ∧ Ap.Rd w' v LS ∧ Chg u' w') :
    Calls Tryz.prog 6 #[.int .u16 s, .slice ao L cap, .agg (ba 12 nc), va, vx] u fun r w' => ∃ v, r = .returned (.tuple #[v, .int .i64 0]) ∧ Ap.Rd w' v LS ∧ Chg u w' := by
  refine (sealG_face s h n (.slice ao L cap) nc va vx u (fun v e w' => e = 0 ∧ Ap.Rd w' v LS ∧ Chg u w') (fun u => by have := find_any s u; rwa [hf, hb] at this) (fun u1 c1 => ?_)).mono ?_
  · refine (sealG_fwd h n ao L cap nc va vx u1 (fun v w => Ap.Rd w v LS) (hPr LS) 0 hL (fun u2 c2 => HS u2 (c1.trans c2))).mono ?_
    rintro r w' ⟨v, rfl, h1, h2⟩
    exact ⟨v, 0, rfl, rfl, h1, c1.trans h2⟩
  · rintro r w' ⟨v, e, rfl, rfl, h1, h2⟩
    exact ⟨v, rfl, h1, h2⟩
theorem sealG_len (s h n : Int) (hf : fndV s = .iface 48 (.agg (lkG h n))) (hb : fndB s = true) (ao : Option Addr) (L cap : Nat) (nc : Nat → By) (va vx : Value) (u : World) (hL : (L : Int) ≠ n) :
    Calls Tryz.prog 6 #[.int .u16 s, .slice ao L cap, .agg (ba 12 nc), va, vx] u fun r w' => r = .returned (.tuple #[.slice none 0 0, .int .i64 102]) ∧ Chg u w' := by
  refine (sealG_face s h n (.slice ao L cap) nc va vx u (fun v e w' => e = 102 ∧ v = .slice none 0 0 ∧ Chg u w') (fun u => by have := find_any s u; rwa [hf, hb] at this) (fun u1 c1 => ?_)).mono ?_
  · refine (sealG_bad h n ao L cap nc va vx u1 hL).mono ?_
    rintro r w' ⟨rfl, h2⟩
    exact ⟨_, 102, rfl, rfl, rfl, c1.trans h2⟩
  · rintro r w' ⟨v, e, rfl, rfl, rfl, h2⟩
    exact ⟨rfl, h2⟩
theorem openG_ok (s h n : Int) (hf : fndV s = .iface 48 (.agg (lkG h n))) (hb : fndB s = true) (ao : Option Addr) (L cap : Nat) (nc : Nat → By) (va vx : Value) (u : World) (hL : (L : Int) = n) (LS : List Int) (HS : ∀ u', Chg u u' → Calls Tryz.prog 28 #[.slice ao L cap, .agg (ba 12 nc), va, vx] u' fun r w' => ∃ v, r = .returned (.tuple #[v, .int .i64 0]) ∧ Ap.Rd w' v LS ∧ Chg u' w') :
    Calls Tryz.prog 8 #[.int .u16 s, .slice ao L cap, .agg (ba 12 nc), va, vx] u fun r w' => ∃ v, r = .returned (.tuple #[v, .int .i64 0]) ∧ Ap.Rd w' v LS ∧ Chg u w' := by
  refine (openG_face s h n (.slice ao L cap) nc va vx u (fun v e w' => e = 0 ∧ Ap.Rd w' v LS ∧ Chg u w') (fun u => by have := find_any s u; rwa [hf, hb] at this) (fun u1 c1 => ?_)).mono ?_
  · refine (openG_fwd h n ao L cap nc va vx u1 (fun v w => Ap.Rd w v LS) (hPr LS) 0 hL 0 (fun v w => Ap.Rd w v LS) (.inl ⟨rfl, rfl, fun _ _ h => h⟩) (fun u2 c2 => HS u2 (c1.trans c2))).mono ?_
    rintro r w' ⟨v, rfl, h1, h2⟩
    exact ⟨v, 0, rfl, rfl, h1, c1.trans h2⟩
  · rintro r w' ⟨v, e, rfl, rfl, h1, h2⟩
    exact ⟨v, rfl, h1, h2⟩
theorem openG_len (s h n : Int) (hf : fndV s = .iface 48 (.agg (lkG h n))) (hb : fndB s = true) (ao : Option Addr) (L cap : Nat) (nc : Nat → By) (va vx : Value) (u : World) (hL : (L : Int) ≠ n) :
    Calls Tryz.prog 8 #[.int .u16 s, .slice ao L cap, .agg (ba 12 nc), va, vx] u fun r w' => r = .returned (.tuple #[.slice none 0 0, .int .i64 102]) ∧ Chg u w' := by
  refine (openG_face s h n (.slice ao L cap) nc va vx u (fun v e w' => e = 102 ∧ v = .slice none 0 0 ∧ Chg u w') (fun u => by have := find_any s u; rwa [hf, hb] at this) (fun u1 c1 => ?_)).mono ?_
  · refine (openG_bad h n ao L cap nc va vx u1 hL).mono ?_
    rintro r w' ⟨rfl, h2⟩
    exact ⟨_, 102, rfl, rfl, rfl, c1.trans h2⟩
  · rintro r w' ⟨v, e, rfl, rfl, rfl, h2⟩
    exact ⟨rfl, h2⟩
theorem openG_no (s h n : Int) (hf : fndV s = .iface 48 (.agg (lkG h n))) (hb : fndB s = true) (ao : Option Addr) (L cap : Nat) (nc : Nat → By) (va vx : Value) (u : World) (hL : (L : Int) = n) (e : Int) (he : e ≠ 0) (HS : ∀ u', Chg u u' → Calls Tryz.prog 28 #[.slice ao L cap, .agg (ba 12 nc), va, vx] u' fun r w' => r = .returned (.tuple #[.slice none 0 0, .int .i64 e]) ∧ Chg u' w') :
    Calls Tryz.prog 8 #[.int .u16 s, .slice ao L cap, .agg (ba 12 nc), va, vx] u fun r w' => r = .returned (.tuple #[.slice none 0 0, .int .i64 103]) ∧ Chg u w' := by
  refine (openG_face s h n (.slice ao L cap) nc va vx u (fun v e w' => e = 103 ∧ v = .slice none 0 0 ∧ Chg u w') (fun u => by have := find_any s u; rwa [hf, hb] at this) (fun u1 c1 => ?_)).mono ?_
  · refine (openG_fwd h n ao L cap nc va vx u1 (fun v w => True) (fun _ _ _ _ _ => trivial) e hL 103 (fun v w => v = .slice none 0 0) (.inr ⟨he, rfl, fun _ => rfl⟩) (fun u2 c2 => (HS u2 (c1.trans c2)).mono fun r w' ⟨h1, h2⟩ => ⟨_, h1, trivial, h2⟩)).mono ?_
    rintro r w' ⟨v, rfl, rfl, h2⟩
    exact ⟨_, 103, rfl, rfl, rfl, c1.trans h2⟩
  · rintro r w' ⟨v, e, rfl, rfl, rfl, h2⟩
    exact ⟨rfl, h2⟩
theorem sealC_ok (kb ko cap : Nat) (key nc : Nat → By) (va vx : Value) (u : World) (hk : Bs u kb ko 32 key) (LS : List Int) (HS : ∀ u', Chg u u' → Calls Tryz.prog 46 #[.agg (ba 32 key), .agg (ba 12 nc), va, vx] u' fun r w' => ∃ v, r = .returned v ∧ Ap.Rd w' v LS ∧ Chg u' w') :
    Calls Tryz.prog 6 #[.int .u16 4867, .slice (some ⟨kb, ko, none⟩) 32 cap, .agg (ba 12 nc), va, vx] u fun r w' => ∃ v, r = .returned (.tuple #[v, .int .i64 0]) ∧ Ap.Rd w' v LS ∧ Chg u w' := by
  refine (sealC_face 4867 (.slice (some ⟨kb, ko, none⟩) 32 cap) nc va vx u (fun v e w' => e = 0 ∧ Ap.Rd w' v LS ∧ Chg u w') (fun u => find_any 4867 u) (fun u1 c1 => ?_)).mono ?_
  · refine (sealC_fwd (some ⟨kb, ko, none⟩) 32 cap key nc va vx u1 (fun v w => Ap.Rd w v LS) (hPr LS) 0 rfl (fun u2 c2 => arrayOf_any kb ko cap key u2 (Bs.chg hk (c1.trans c2))) (fun u2 c2 => chachaSeal_any key nc va vx u2 (fun v w => Ap.Rd w v LS) (fun u3 c3 => HS u3 ((c1.trans c2).trans c3)))).mono ?_
    rintro r w' ⟨v, rfl, h1, h2⟩
    exact ⟨v, 0, rfl, rfl, h1, c1.trans h2⟩
  · rintro r w' ⟨v, e, rfl, rfl, h1, h2⟩
    exact ⟨v, rfl, h1, h2⟩
theorem sealC_len (ao : Option Addr) (L cap : Nat) (nc : Nat → By) (va vx : Value) (u : World) (hL : (L : Int) ≠ 32) :
    Calls Tryz.prog 6 #[.int .u16 4867, .slice ao L cap, .agg (ba 12 nc), va, vx] u fun r w' => r = .returned (.tuple #[.slice none 0 0, .int .i64 102]) ∧ Chg u w' := by
  refine (sealC_face 4867 (.slice ao L cap) nc va vx u (fun v e w' => e = 102 ∧ v = .slice none 0 0 ∧ Chg u w') (fun u => find_any 4867 u) (fun u1 c1 => ?_)).mono ?_
  · refine (sealC_bad ao L cap nc va vx u1 hL).mono ?_
    rintro r w' ⟨rfl, h2⟩
    exact ⟨_, 102, rfl, rfl, rfl, c1.trans h2⟩
  · rintro r w' ⟨v, e, rfl, rfl, rfl, h2⟩
    exact ⟨rfl, h2⟩
theorem openC_ok (kb ko cap : Nat) (key nc : Nat → By) (va vx : Value) (u : World) (hk : Bs u kb ko 32 key) (LS : List Int) (HS : ∀ u', Chg u u' → Calls Tryz.prog 31 #[.agg (ba 32 key), .agg (ba 12 nc), va, vx] u' fun r w' => ∃ v, r = .returned (.tuple #[v, .int .i64 0]) ∧ Ap.Rd w' v LS ∧ Chg u' w') :
    Calls Tryz.prog 8 #[.int .u16 4867, .slice (some ⟨kb, ko, none⟩) 32 cap, .agg (ba 12 nc), va, vx] u fun r w' => ∃ v, r = .returned (.tuple #[v, .int .i64 0]) ∧ Ap.Rd w' v LS ∧ Chg u w' := by
  refine (openC_face 4867 (.slice (some ⟨kb, ko, none⟩) 32 cap) nc va vx u (fun v e w' => e = 0 ∧ Ap.Rd w' v LS ∧ Chg u w') (fun u => find_any 4867 u) (fun u1 c1 => ?_)).mono ?_
  · refine (openC_fwd (some ⟨kb, ko, none⟩) 32 cap key nc va vx u1 (fun v w => Ap.Rd w v LS) (hPr LS) 0 rfl (fun u2 c2 => arrayOf_any kb ko cap key u2 (Bs.chg hk (c1.trans c2))) 0 (fun v w => Ap.Rd w v LS) (.inl ⟨rfl, rfl, fun _ _ h => h⟩) (fun u2 c2 => HS u2 (c1.trans c2))).mono ?_
    rintro r w' ⟨v, rfl, h1, h2⟩
    exact ⟨v, 0, rfl, rfl, h1, c1.trans h2⟩
  · rintro r w' ⟨v, e, rfl, rfl, h1, h2⟩
    exact ⟨v, rfl, h1, h2⟩
theorem openC_len (ao : Option Addr) (L cap : Nat) (nc : Nat → By) (va vx : Value) (u : World) (hL : (L : Int) ≠ 32) :
    Calls Tryz.prog 8 #[.int .u16 4867, .slice ao L cap, .agg (ba 12 nc), va, vx] u fun r w' => r = .returned (.tuple #[.slice none 0 0, .int .i64 102]) ∧ Chg u w' := by
  refine (openC_face 4867 (.slice ao L cap) nc va vx u (fun v e w' => e = 102 ∧ v = .slice none 0 0 ∧ Chg u w') (fun u => find_any 4867 u) (fun u1 c1 => ?_)).mono ?_
  · refine (openC_bad ao L cap nc va vx u1 hL).mono ?_
    rintro r w' ⟨rfl, h2⟩
    exact ⟨_, 102, rfl, rfl, rfl, c1.trans h2⟩
  · rintro r w' ⟨v, e, rfl, rfl, rfl, h2⟩
    exact ⟨rfl, h2⟩
theorem openC_no (kb ko cap : Nat) (key nc : Nat → By) (va vx : Value) (u : World) (hk : Bs u kb ko 32 key) (e : Int) (he : e ≠ 0) (HS : ∀ u', Chg u u' → Calls Tryz.prog 31 #[.agg (ba 32 key), .agg (ba 12 nc), va, vx] u' fun r w' => r = .returned (.tuple #[.slice none 0 0, .int .i64 e]) ∧ Chg u' w') :
    Calls Tryz.prog 8 #[.int .u16 4867, .slice (some ⟨kb, ko, none⟩) 32 cap, .agg (ba 12 nc), va, vx] u fun r w' => r = .returned (.tuple #[.slice none 0 0, .int .i64 103]) ∧ Chg u w' := by
  refine (openC_face 4867 (.slice (some ⟨kb, ko, none⟩) 32 cap) nc va vx u (fun v e w' => e = 103 ∧ v = .slice none 0 0 ∧ Chg u w') (fun u => find_any 4867 u) (fun u1 c1 => ?_)).mono ?_
  · refine (openC_fwd (some ⟨kb, ko, none⟩) 32 cap key nc va vx u1 (fun v w => True) (fun _ _ _ _ _ => trivial) e rfl (fun u2 c2 => arrayOf_any kb ko cap key u2 (Bs.chg hk (c1.trans c2))) 103 (fun v w => v = .slice none 0 0) (.inr ⟨he, rfl, fun _ => rfl⟩) (fun u2 c2 => (HS u2 (c1.trans c2)).mono fun r w' ⟨h1, h2⟩ => ⟨_, h1, trivial, h2⟩)).mono ?_
    rintro r w' ⟨v, rfl, rfl, h2⟩
    exact ⟨_, 103, rfl, rfl, rfl, c1.trans h2⟩
  · rintro r w' ⟨v, e, rfl, rfl, rfl, h2⟩
    exact ⟨rfl, h2⟩

/-- What Seal and Open do with a key that fits. -/
structure Lock (s : Int) (kv : Value) (nc : Nat → By) (va : Value) (w : World) (SL : Nat → (Nat → By) → Nat → By) (ok : Nat → (Nat → By) → Bool) (OP : Nat → (Nat → By) → Nat → By) : Prop where
  lck : ∀ u v n tx, Chg w u → Ap.Rd u v (nums n tx) → n ≤ 1048576 → Calls Tryz.prog 6 #[.int .u16 s, kv, .agg (ba 12 nc), va, v] u fun r w' => ∃ v, r = .returned (.tuple #[v, .int .i64 0]) ∧ Ap.Rd w' v (nums (n + 16) (SL n tx)) ∧ Chg u w'
  lckR : ∀ u v n tx, Chg w u → Ap.Rd u v (nums n tx) → n ≤ 1048576 → Calls Tryz.prog 7 #[.int .u16 s, kv, .agg (ba 12 nc), va, v] u fun r w' => ∃ v, r = .returned (.tuple #[v, .int .i64 0]) ∧ Ap.Rd w' v (nums (n + 16) (SL n tx)) ∧ Chg u w'
  opn : ∀ u v m sf, Chg w u → Ap.Rd u v (nums (m + 16) sf) → m ≤ 1048576 → ok m sf = true → Calls Tryz.prog 8 #[.int .u16 s, kv, .agg (ba 12 nc), va, v] u fun r w' => ∃ v, r = .returned (.tuple #[v, .int .i64 0]) ∧ Ap.Rd w' v (nums m (OP m sf)) ∧ Chg u w'
  noopn : ∀ u v m sf, Chg w u → Ap.Rd u v (nums (m + 16) sf) → m ≤ 1048576 → ok m sf = false → Calls Tryz.prog 8 #[.int .u16 s, kv, .agg (ba 12 nc), va, v] u fun r w' => r = .returned (.tuple #[.slice none 0 0, .int .i64 103]) ∧ Chg u w'
  shortopn : ∀ u v n sf, Chg w u → Ap.Rd u v (nums n sf) → n < 16 → Calls Tryz.prog 8 #[.int .u16 s, kv, .agg (ba 12 nc), va, v] u fun r w' => r = .returned (.tuple #[.slice none 0 0, .int .i64 103]) ∧ Chg u w'
  opnR : ∀ u v m sf, Chg w u → Ap.Rd u v (nums (m + 16) sf) → m ≤ 1048576 → ok m sf = true → Calls Tryz.prog 9 #[.int .u16 s, kv, .agg (ba 12 nc), va, v] u fun r w' => ∃ v, r = .returned (.tuple #[v, .int .i64 0]) ∧ Ap.Rd w' v (nums m (OP m sf)) ∧ Chg u w'
  noopnR : ∀ u v m sf, Chg w u → Ap.Rd u v (nums (m + 16) sf) → m ≤ 1048576 → ok m sf = false → Calls Tryz.prog 9 #[.int .u16 s, kv, .agg (ba 12 nc), va, v] u fun r w' => r = .returned (.tuple #[.slice none 0 0, .int .i64 103]) ∧ Chg u w'
  shortopnR : ∀ u v n sf, Chg w u → Ap.Rd u v (nums n sf) → n < 16 → Calls Tryz.prog 9 #[.int .u16 s, kv, .agg (ba 12 nc), va, v] u fun r w' => r = .returned (.tuple #[.slice none 0 0, .int .i64 103]) ∧ Chg u w'
  back : ∀ n tx, ok n (SL n tx) = true ∧ nums n (OP n (SL n tx)) = nums n tx
  there : ∀ m sf, ok m sf = true → nums (m + 16) (SL m (OP m sf)) = nums (m + 16) sf

set_option maxHeartbeats 4000000 in
theorem lockG (s h : Int) (kb ko cap L nk R na : Nat) (key nc ta : Nat → By) (va : Value) (w : World) (hf : fndV s = .iface 48 (.agg (lkG h (L : Int)))) (hb : fndB s = true) (hm : mayF s L = 0) (h67 : (s == 4867) = false)
    (hv : Bs w kb ko L key) (hL : L = 4 * nk) (hn : nk = 4 ∨ nk = 8) (hR : R = nk + 6) (hcap : L ≤ cap) (hcap' : cap ≤ 9223372036854775807) (hva : Ap.Rd w va (nums na ta)) (hna : na ≤ 1048576) (k : Nat → By) (hk : Ks nk (4 * (R + 1)) key k) :
    Lock s (.slice (some ⟨kb, ko, none⟩) L cap) nc va w (fun n tx => sealF R k nc ta na tx n) (fun m sf => sameB 16 (tagF R k nc ta na sf m) (fun j => sf (m + j))) (fun m sf => stF R k (ctrB nc 2#8) sf) := by
  have hsame : ∀ (m : Nat) (sf k' : Nat → By), Ks nk (4 * (R + 1)) key k' → sameB 16 (tagF R k' nc ta na sf m) (fun j => sf (m + j)) = sameB 16 (tagF R k nc ta na sf m) (fun j => sf (m + j)) := fun m sf k' hk' => by
    rw [Bool.eq_iff_iff, sameB_iff, sameB_iff]
    have e := tag_congr hR hn hk' hk nc ta na (t1 := sf) (t2 := sf) (nx := m) (fun _ _ => rfl)
    exact ⟨fun h j hj => by rw [← e j hj]; exact h j hj, fun h j hj => by rw [e j hj]; exact h j hj⟩
  refine ⟨?_, ?_, ?_, ?_, ?_, ?_, ?_, ?_, ?_, ?_⟩
  · intro u v n tx c hr hnx
    refine sealG_ok s h L hf hb _ L cap nc va v u rfl _ (fun u1 c1 => ?_)
    refine (seal_any kb ko cap L nk R key nc ta tx na n va v u1 (hv.chg (c.trans c1)) hL hn hR hcap hcap' (Rd.chg hva (c.trans c1)) (Rd.chg hr c1) (by omega) (by omega)).mono ?_
    rintro r w' ⟨k3, v3, hr, ho, hk3⟩
    refine ⟨v3, hr, ?_, ho.chg⟩
    rw [← seal_key hR hn hk3 hk nc ta na tx n]
    exact ho.own.rd
  · intro u v n tx c hr hnx
    refine refSealG_fwd s _ L cap nc va v u (fun v w => Ap.Rd w v (nums (n + 16) (sealF R k nc ta na tx n))) (hPr _) 0 hm h67 (fun u1 c1 => ?_)
    refine (refSeal_any kb ko cap L nk R key nc ta tx na n va v u1 (hv.chg (c.trans c1)) hL hn hR hcap hcap' (Rd.chg hva (c.trans c1)) (Rd.chg hr c1) (by omega) (by omega)).mono ?_
    rintro r w' ⟨k3, v3, hr, ho, hk3⟩
    refine ⟨v3, hr, ?_, ho.chg⟩
    rw [← seal_key hR hn hk3 hk nc ta na tx n]
    exact ho.own.rd
  · intro u v m sf c hr hml hok
    obtain ⟨sb, so', cs', rfl, hc1, hc2, hbs⟩ := Rd.bs hr (by omega)
    refine openG_ok s h L hf hb _ L cap nc va _ u rfl _ (fun u1 c1 => ?_)
    refine (open_any kb ko cap L nk R key nc ta sf na m sb so' cs' va u1 (hv.chg (c.trans c1)) hL hn hR hcap hcap' (Rd.chg hva (c.trans c1)) (hbs.chg c1) hc1 hc2 (by omega) (by omega)).mono ?_
    rintro r w' ⟨k3, hk3, hc, h⟩
    rw [hsame m sf k3 hk3, hok, key_st hR hn hk3 hk] at h
    rcases h with ⟨_, v2, h1, h2⟩ | ⟨h1, _⟩
    · exact ⟨v2, h1, h2, hc⟩
    · cases h1
  · intro u v m sf c hr hml hok
    obtain ⟨sb, so', cs', rfl, hc1, hc2, hbs⟩ := Rd.bs hr (by omega)
    refine openG_no s h L hf hb _ L cap nc va _ u rfl 81 (by decide) (fun u1 c1 => ?_)
    · refine (open_any kb ko cap L nk R key nc ta sf na m sb so' cs' va u1 (hv.chg (c.trans c1)) hL hn hR hcap hcap' (Rd.chg hva (c.trans c1)) (hbs.chg c1) hc1 hc2 (by omega) (by omega)).mono ?_
      rintro r w' ⟨k3, hk3, hc, h⟩
      rw [hsame m sf k3 hk3, hok] at h
      rcases h with ⟨h1, _⟩ | ⟨_, h1⟩
      · cases h1
      · exact ⟨h1, hc⟩
  · intro u v n sf c hr h16
    obtain ⟨vo, vm, vc, rfl, hvm, -⟩ := hr.shape
    rw [nums_len] at hvm
    subst hvm
    refine openG_no s h L hf hb _ L cap nc va _ u rfl 81 (by decide) (fun u1 c1 => ?_)
    · exact openShort_any kb ko cap L nk R key nc vm vc vo va u1 (hv.chg (c.trans c1)) hL hn hR hcap hcap' h16
  · intro u v m sf c hr hml hok
    obtain ⟨sb, so', cs', rfl, hc1, hc2, hbs⟩ := Rd.bs hr (by omega)
    refine refOpenG_fwd s _ L cap nc va _ u (fun v w => Ap.Rd w v (nums m (stF R k (ctrB nc 2#8) sf))) (hPr _) 0 hm h67 (fun u1 c1 => ?_) 0 (fun v w => Ap.Rd w v (nums m (stF R k (ctrB nc 2#8) sf))) (.inl ⟨rfl, rfl, fun _ _ h => h⟩)
    refine (refOpen_any kb ko cap L nk R key nc ta sf na m sb so' cs' va u1 (hv.chg (c.trans c1)) hL hn hR hcap hcap' (Rd.chg hva (c.trans c1)) (hbs.chg c1) hc1 hc2 (by omega) (by omega)).mono ?_
    rintro r w' ⟨k3, hk3, hc, h⟩
    rw [hsame m sf k3 hk3, hok, key_st hR hn hk3 hk] at h
    rcases h with ⟨_, v2, h1, h2⟩ | ⟨h1, _⟩
    · exact ⟨v2, h1, h2, hc⟩
    · cases h1
  · intro u v m sf c hr hml hok
    obtain ⟨sb, so', cs', rfl, hc1, hc2, hbs⟩ := Rd.bs hr (by omega)
    refine (refOpenG_fwd s _ L cap nc va _ u (fun v w => True) (fun _ _ _ _ _ => trivial) 81 hm h67 (fun u1 c1 => nilEx ?_) 103 (fun v w => v = .slice none 0 0) (.inr ⟨by decide, rfl, fun _ => rfl⟩)).mono ?_
    · refine (refOpen_any kb ko cap L nk R key nc ta sf na m sb so' cs' va u1 (hv.chg (c.trans c1)) hL hn hR hcap hcap' (Rd.chg hva (c.trans c1)) (hbs.chg c1) hc1 hc2 (by omega) (by omega)).mono ?_
      rintro r w' ⟨k3, hk3, hc, h⟩
      rw [hsame m sf k3 hk3, hok] at h
      rcases h with ⟨h1, _⟩ | ⟨_, h1⟩
      · cases h1
      · exact ⟨h1, hc⟩
    · rintro r w' ⟨v, rfl, rfl, h2⟩
      exact ⟨rfl, h2⟩
  · intro u v n sf c hr h16
    obtain ⟨vo, vm, vc, rfl, hvm, -⟩ := hr.shape
    rw [nums_len] at hvm
    subst hvm
    refine (refOpenG_fwd s _ L cap nc va _ u (fun v w => True) (fun _ _ _ _ _ => trivial) 81 hm h67 (fun u1 c1 => nilEx ?_) 103 (fun v w => v = .slice none 0 0) (.inr ⟨by decide, rfl, fun _ => rfl⟩)).mono ?_
    · exact refOpenShort_any kb ko cap L nk R key nc vm vc vo va u1 (hv.chg (c.trans c1)) hL hn hR hcap hcap' h16
    · rintro r w' ⟨v, rfl, rfl, h2⟩
      exact ⟨rfl, h2⟩
  · intro n tx
    exact seal_opens hR hn hk hk nc ta na tx n
  · intro m sf hok
    exact opens_seal hR hn hk hk nc ta na sf m hok

set_option maxHeartbeats 4000000 in
theorem lockC (kb ko cap na ca : Nat) (ao : Option Addr) (key nc : Nat → By) (xs : List Int) (w : World) (hv : Bs w kb ko 32 key) (hcap : 32 ≤ cap) (hcap' : cap ≤ 9223372036854775807) (hva : Ap.Rd w (.slice ao na ca) xs) (hxb : Cha.Bt xs) (hxl : xs.length ≤ 8388608) :
    Lock 4867 (.slice (some ⟨kb, ko, none⟩) 32 cap) nc (.slice ao na ca) w (fun n tx => Cha.sealF key nc xs n tx) (fun m sf => Cha.sameB 16 (Cha.tagF key nc xs (nums m sf)) (fun j => sf (m + j))) (fun m sf => Cha.stF key 1#32 nc sf) := by
  have hm : mayF 4867 32 = 0 := by decide
  refine ⟨?_, ?_, ?_, ?_, ?_, ?_, ?_, ?_, ?_, ?_⟩
  · intro u v n tx c hr hnx
    obtain ⟨vo, vm, vc, rfl, hvm, -⟩ := hr.shape
    rw [nums_len] at hvm
    subst hvm
    refine sealC_ok kb ko cap key nc _ _ u (hv.chg c) _ (fun u1 c1 => ?_)
    refine (Cha.seal_any key nc tx ao vo na ca vm vc xs u1 (Rd.chg hva (c.trans c1)) (Rd.chg hr c1) hxb hxl (by omega)).mono ?_
    rintro r w' ⟨v3, hr, ho⟩
    refine ⟨v3, hr, ?_, ho.chg⟩
    rw [← Cha.sealL_nums]
    exact ho.own.rd
  · intro u v n tx c hr hnx
    obtain ⟨vo, vm, vc, rfl, hvm, -⟩ := hr.shape
    rw [nums_len] at hvm
    subst hvm
    refine refSealC_fwd 4867 _ 32 cap key nc _ _ u (fun v w => Ap.Rd w v (nums (vm + 16) (Cha.sealF key nc xs vm tx))) (hPr _) hm rfl (fun u1 c1 => whole_any kb ko cap key u1 (hv.chg (c.trans c1)) hcap hcap') (fun u1 c1 => ?_)
    refine (Cha.refSeal_any key nc tx ao vo na ca vm vc xs u1 (Rd.chg hva (c.trans c1)) (Rd.chg hr c1) hxb hxl (by omega)).mono ?_
    rintro r w' ⟨v3, hr, ho⟩
    refine ⟨v3, hr, ?_, ho.chg⟩
    rw [← Cha.sealL_nums]
    exact ho.own.rd
  · intro u v m sf c hr hml hok
    obtain ⟨sb, so', cs', rfl, hc1, hc2, hbs⟩ := Rd.bs hr (by omega)
    refine openC_ok kb ko cap key nc _ _ u (hv.chg c) _ (fun u1 c1 => ?_)
    refine (Cha.open_any key nc sf na ca m sb so' cs' ao xs u1 (Rd.chg hva (c.trans c1)) hxb hxl (hbs.chg c1) hc1 hc2 (by omega)).mono ?_
    rintro r w' ⟨hc, h⟩
    rw [hok] at h
    rcases h with ⟨_, v2, h1, h2⟩ | ⟨h1, _⟩
    · exact ⟨v2, h1, h2, hc⟩
    · cases h1
  · intro u v m sf c hr hml hok
    obtain ⟨sb, so', cs', rfl, hc1, hc2, hbs⟩ := Rd.bs hr (by omega)
    refine openC_no kb ko cap key nc _ _ u (hv.chg c) 91 (by decide) (fun u1 c1 => ?_)
    · refine (Cha.open_any key nc sf na ca m sb so' cs' ao xs u1 (Rd.chg hva (c.trans c1)) hxb hxl (hbs.chg c1) hc1 hc2 (by omega)).mono ?_
      rintro r w' ⟨hc, h⟩
      rw [hok] at h
      rcases h with ⟨h1, _⟩ | ⟨_, h1⟩
      · cases h1
      · exact ⟨h1, hc⟩
  · intro u v n sf c hr h16
    obtain ⟨vo, vm, vc, rfl, hvm, -⟩ := hr.shape
    rw [nums_len] at hvm
    subst hvm
    refine openC_no kb ko cap key nc _ _ u (hv.chg c) 91 (by decide) (fun u1 c1 => ?_)
    · exact Cha.openShort_any key nc vm vc vo _ u1 h16
  · intro u v m sf c hr hml hok
    obtain ⟨sb, so', cs', rfl, hc1, hc2, hbs⟩ := Rd.bs hr (by omega)
    refine refOpenC_fwd 4867 _ 32 cap key nc _ _ u (fun v w => Ap.Rd w v (nums m (Cha.stF key 1#32 nc sf))) (hPr _) 0 hm rfl (fun u1 c1 => whole_any kb ko cap key u1 (hv.chg (c.trans c1)) hcap hcap') (fun u1 c1 => ?_) 0 (fun v w => Ap.Rd w v (nums m (Cha.stF key 1#32 nc sf))) (.inl ⟨rfl, rfl, fun _ _ h => h⟩)
    refine (Cha.refOpen_any key nc sf na ca m sb so' cs' ao xs u1 (Rd.chg hva (c.trans c1)) hxb hxl (hbs.chg c1) hc1 hc2 (by omega)).mono ?_
    rintro r w' ⟨hc, h⟩
    rw [hok] at h
    rcases h with ⟨_, v2, h1, h2⟩ | ⟨h1, _⟩
    · exact ⟨v2, h1, h2, hc⟩
    · cases h1
  · intro u v m sf c hr hml hok
    obtain ⟨sb, so', cs', rfl, hc1, hc2, hbs⟩ := Rd.bs hr (by omega)
    refine (refOpenC_fwd 4867 _ 32 cap key nc _ _ u (fun v w => True) (fun _ _ _ _ _ => trivial) 91 hm rfl (fun u1 c1 => whole_any kb ko cap key u1 (hv.chg (c.trans c1)) hcap hcap') (fun u1 c1 => nilEx ?_) 103 (fun v w => v = .slice none 0 0) (.inr ⟨by decide, rfl, fun _ => rfl⟩)).mono ?_
    · refine (Cha.refOpen_any key nc sf na ca m sb so' cs' ao xs u1 (Rd.chg hva (c.trans c1)) hxb hxl (hbs.chg c1) hc1 hc2 (by omega)).mono ?_
      rintro r w' ⟨hc, h⟩
      rw [hok] at h
      rcases h with ⟨h1, _⟩ | ⟨_, h1⟩
      · cases h1
      · exact ⟨h1, hc⟩
    · rintro r w' ⟨v, rfl, rfl, h2⟩
      exact ⟨rfl, h2⟩
  · intro u v n sf c hr h16
    obtain ⟨vo, vm, vc, rfl, hvm, -⟩ := hr.shape
    rw [nums_len] at hvm
    subst hvm
    refine (refOpenC_fwd 4867 _ 32 cap key nc _ _ u (fun v w => True) (fun _ _ _ _ _ => trivial) 91 hm rfl (fun u1 c1 => whole_any kb ko cap key u1 (hv.chg (c.trans c1)) hcap hcap') (fun u1 c1 => nilEx ?_) 103 (fun v w => v = .slice none 0 0) (.inr ⟨by decide, rfl, fun _ => rfl⟩)).mono ?_
    · exact Cha.refOpenShort_any key nc vm vc vo _ u1 h16
    · rintro r w' ⟨v, rfl, rfl, h2⟩
      exact ⟨rfl, h2⟩
  · intro n tx
    exact Cha.seal_opens key nc xs n tx
  · intro m sf hok
    rw [← Cha.sealL_nums]
    exact Cha.opens_seal key nc xs m sf hok
end Go.Proofs.YtobglgddbhddnaaGreat

namespace Go.Proofs.YtobglgddbhddnaaGreat
open Go.RowKit
set_option linter.unusedVariables false

set_option maxRecDepth 100000 in
set_option maxHeartbeats 4000000 in
theorem shead_any (w : World) : Calls Tryz.prog 5 #[] w fun r w' => r = .returned (.bool true) ∧ Chg w w' := by
  have hz := zero38.1
  have hmk : ∀ u, (Instr.makeSlice 24 (.int .i64 16) (.int .i64 16)).run Tryz.prog u = .ok (.slice (some ⟨u.heap.size, 0, none⟩) 16 16) (u.alloc (.cells (ba 16 zB) 5)) := mk22 16 (by decide)
  go_enter Tryz.func5, Tryz.ntmps5
  go_wp2_with fail
  obtain ⟨w1, hw1⟩ : ∃ w1, w1 = w.alloc (.cells (ba 16 zB) 5) := ⟨_, rfl⟩
  have Z1 : Hid (Chg w w1 ∧ Bs w1 w.heap.size 0 16 zB) := by
    rw [hw1]
    exact ⟨(Chg.refl w).alloc _, Ar.bs (Ar.new w _ _)⟩
  rw [← hw1]
  clear hw1
  go_at_call 6
  have HC := sealG_face 4865 1 16 (.slice (some ⟨w.heap.size, 0, none⟩) 16 16) zB (.slice none 0 0) (.slice none 0 0) w1 (fun v e u => e = 0 ∧ Ap.Rd u v (nums 16 gAns) ∧ Chg w1 u) (fun u => find_any 4865 u) (fun u hu => by
    refine (sealG_fwd 1 16 (some ⟨w.heap.size, 0, none⟩) 16 16 zB (.slice none 0 0) (.slice none 0 0) u (fun v u => Ap.Rd u v (nums 16 gAns)) (fun v u u' h k => Rd.chg h k) 0 rfl (fun u2 hu2 => ?_)).mono ?_
    · refine (seal_any w.heap.size 0 16 16 4 10 zB zB zB zB 0 0 (.slice none 0 0) (.slice none 0 0) u2 (Bs.chg Z1.out.2 (hu.trans hu2)) rfl (.inl rfl) rfl (Nat.le_refl _) (by decide) (Ap.Rd.nil _) (Ap.Rd.nil _) (by decide) (by decide)).mono ?_
      rintro r w2 ⟨k, v, rfl, ho, hks⟩
      have hr := ho.own.rd
      rw [show 0 + 16 = 16 from rfl, head_tag hks] at hr
      exact ⟨v, rfl, hr, ho.chg⟩
    · rintro r w2 ⟨v, rfl, h1, h2⟩
      exact ⟨v, 0, rfl, rfl, h1, hu.trans h2⟩)
  refine HC.mono ?_
  rintro r w2 ⟨v, e, rfl, rfl, hr, hc⟩
  obtain ⟨ao, m, c, rfl, hm, -⟩ := hr.shape
  rw [nums_len] at hm
  subst hm
  obtain ⟨kb, ko, c', heq, -, -, hb⟩ := Rd.bs hr (by decide)
  cases heq
  have c0 : w2.cell? ⟨kb, ko, none⟩ = some (.int .u8 88) := hb 0 (by decide)
  have c15 : w2.cell? ⟨kb, ko + 15, none⟩ = some (.int .u8 90) := hb 15 (by decide)
  have Z2 : Hid (Chg w w2) := Z1.out.1.trans hc
  clear HC hb hr hc Z1
  go_wp2_with (first | (go_at_call 10; refine (skeyLen_any 4866 _).mono ?_; rintro r w3 ⟨rfl, hw3⟩))
  go_ret
  exact ⟨rfl, Z2.out.trans hw3⟩
end Go.Proofs.YtobglgddbhddnaaGreat

namespace Go.Proofs.YtobglgddbhddnaaGreat
open Go.RowKit
set_option linter.unusedVariables false

set_option maxRecDepth 100000 in
set_option maxHeartbeats 8000000 in
theorem sseals_walk (s : Int) (kv : Value) (nc tx : Nat → By) (va : Value) (xo : Option Addr) (nx cx : Nat) (e : Int) (LS LO : List Int) (w : World)
    (hvx : Ap.Rd w (.slice xo nx cx) (nums nx tx))
    (hS : ∀ u, Chg w u → Calls Tryz.prog 6 #[.int .u16 s, kv, .agg (ba 12 nc), va, .slice xo nx cx] u fun r w' => ∃ v, r = .returned (.tuple #[v, .int .i64 e]) ∧ Ap.Rd w' v LS ∧ Chg u w')
    (hR : ∀ u, Chg w u → Calls Tryz.prog 7 #[.int .u16 s, kv, .agg (ba 12 nc), va, .slice xo nx cx] u fun r w' => ∃ v, r = .returned (.tuple #[v, .int .i64 e]) ∧ Ap.Rd w' v LS ∧ Chg u w')
    (hO : ∀ u v, Chg w u → Ap.Rd u v LS → Calls Tryz.prog 8 #[.int .u16 s, kv, .agg (ba 12 nc), va, v] u fun r w' => ∃ v', r = .returned (.tuple #[v', .int .i64 e]) ∧ Ap.Rd w' v' LO ∧ Chg u w')
    (hq : (e = 0 ∧ LO = nums nx tx) ∨ (e ≠ 0 ∧ LS = [] ∧ LO = [])) :
    Calls Tryz.prog 3 #[.int .u16 s, kv, .agg (ba 12 nc), va, .slice xo nx cx] w fun r w' => r = .returned (.bool true) ∧ Chg w w' := by
  have hsA := ba_size 12 nc
  have hszA := szB nc zero38.2
  obtain ⟨A, hA⟩ : ∃ A, A = ba 12 nc := ⟨_, rfl⟩
  rw [← hA] at hsA hszA hS hR hO ⊢
  clear hA
  have HX : Hid (Ap.Rd w (.slice xo nx cx) (nums nx tx)) := hvx
  have HS : Hid (∀ u, Chg w u → Calls Tryz.prog 6 #[.int .u16 s, kv, .agg A, va, .slice xo nx cx] u fun r w' => ∃ v, r = .returned (.tuple #[v, .int .i64 e]) ∧ Ap.Rd w' v LS ∧ Chg u w') := hS
  have HR : Hid (∀ u, Chg w u → Calls Tryz.prog 7 #[.int .u16 s, kv, .agg A, va, .slice xo nx cx] u fun r w' => ∃ v, r = .returned (.tuple #[v, .int .i64 e]) ∧ Ap.Rd w' v LS ∧ Chg u w') := hR
  have HO : Hid (∀ u v, Chg w u → Ap.Rd u v LS → Calls Tryz.prog 8 #[.int .u16 s, kv, .agg A, va, v] u fun r w' => ∃ v', r = .returned (.tuple #[v', .int .i64 e]) ∧ Ap.Rd w' v' LO ∧ Chg u w') := hO
  have HQ : Hid ((e = 0 ∧ LO = nums nx tx) ∨ (e ≠ 0 ∧ LS = [] ∧ LO = [])) := hq
  clear hvx hS hR hO hq
  go_enter Tryz.func3, Tryz.ntmps3
  go_wp2_with fail
  go_at_call 5
  refine (shead_any _).mono ?_
  rintro r w1 ⟨rfl, hc1⟩
  have Z1 : Hid (Chg w w1 ∧ Ar w1 w.heap.size A) := ⟨((Chg.refl w).alloc _).trans hc1, (Ar.new w _ _).chg hc1⟩
  clear hc1 hsA
  obtain ⟨t1, g1⟩ := Z1.out.2
  go_wp2_with (first | refine wpList_load_row rfl 25 _ rfl _ rfl _ _ _ _ g1 und38 rfl hszA ?_)
  go_at_call 6
  refine (HS.out _ Z1.out.1).mono ?_
  rintro r w2 ⟨v2, rfl, hr2, hc2⟩
  obtain ⟨p2, m2, q2, rfl, hm2, -⟩ := hr2.shape
  have Z2 : Hid (Chg w w2 ∧ Ar w2 w.heap.size A ∧ Ap.Rd w2 (.slice p2 m2 q2) LS ∧ m2 = LS.length) := ⟨Z1.out.1.trans hc2, Z1.out.2.chg hc2, hr2, hm2⟩
  clear hc2 g1 hr2 Z1 hm2
  obtain ⟨t2, g2⟩ := Z2.out.2.1
  go_wp2_with (first | refine wpList_load_row rfl 25 _ rfl _ rfl _ _ _ _ g2 und38 rfl hszA ?_)
  go_at_call 7
  refine (HR.out _ Z2.out.1).mono ?_
  rintro r w3 ⟨v3, rfl, hr3, hc3⟩
  obtain ⟨p3, m3, q3, rfl, -⟩ := hr3.shape
  have Z3 : Hid (Chg w w3 ∧ Ar w3 w.heap.size A ∧ Ap.Rd w3 (.slice p2 m2 q2) LS ∧ m2 = LS.length) := ⟨Z2.out.1.trans hc3, Z2.out.2.1.chg hc3, Rd.chg Z2.out.2.2.1 hc3, Z2.out.2.2.2⟩
  have s1 := Ap.run_str w3 _ _ hr3
  have s2 := Ap.run_str w3 _ _ Z3.out.2.2.1
  obtain ⟨E, hE⟩ : ∃ E, E = strOfNums LS := ⟨_, rfl⟩
  rw [← hE] at s1 s2
  have hee : (e != e) = false := by simp
  clear hc3 g2 hE hr3 Z2
  go_upto_region 6 with fail
  clear s1 s2
  obtain ⟨t3, g3⟩ := Z3.out.2.1
  go_wp2_with (first | refine wpList_load_row rfl 25 _ rfl _ rfl _ _ _ _ g3 und38 rfl hszA ?_)
  go_at_call 8
  refine (HO.out _ _ Z3.out.1 Z3.out.2.2.1).mono ?_
  rintro r w4 ⟨v4, rfl, hr4, hc4⟩
  obtain ⟨p4, m4, q4, rfl, hm4, -⟩ := hr4.shape
  have Z4 : Hid (Chg w w4 ∧ Ap.Rd w4 (.slice p4 m4 q4) LO ∧ m4 = LO.length) := ⟨Z3.out.1.trans hc4, hr4, hm4⟩
  clear hc4 g3 hr4 hm4
  rcases HQ.out with ⟨he, hl⟩ | ⟨he, hl, hl'⟩
  · have hr := Z4.out.2.1
    rw [hl] at hr
    have s3 := Ap.run_str w4 _ _ hr
    have s4 := Ap.run_str w4 _ _ (Rd.chg HX.out Z4.out.1)
    obtain ⟨E2, hE2⟩ : ∃ E, E = strOfNums (nums nx tx) := ⟨_, rfl⟩
    rw [← hE2] at s3 s4
    subst he
    clear hE2 hr hl HQ
    go_wp2_with fail
    go_ret
    exact ⟨rfl, Z4.out.1⟩
  · have h2 := Z3.out.2.2.2
    have h4 := Z4.out.2.2
    rw [hl] at h2
    rw [hl'] at h4
    have h2' : m2 = 0 := h2
    have h4' : m4 = 0 := h4
    subst h2' h4'
    have he0 : (e != 0) = true := by simpa using he
    have hee2 : (e == e) = true := by simp
    clear h2 h4 he hl hl' HQ
    go_wp2_with fail
    go_ret
    exact ⟨rfl, Z4.out.1⟩
end Go.Proofs.YtobglgddbhddnaaGreat
