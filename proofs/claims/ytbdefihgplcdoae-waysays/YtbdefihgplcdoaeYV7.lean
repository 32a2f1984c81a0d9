/- The law's closed fact posted(). -/
import Derived.Test.YtbdefihgplcdoaeYV6
namespace Go.Proofs.Ytbdefihgplcdoae
open Go.RowKit
theorem pins_blkM {w : World} {g c : Nat} {t : TypeId} {l : List (Int × Int)} (h : Blk w g (flat l).toArray t) (hl : l.length ≤ 1000) : PinsAt w (.slice (some ⟨g, 0, none⟩) l.length c) l := by
  refine ⟨by omega, c, .inr ⟨g, 0, rfl, h.lt, fun j hj => ?_⟩⟩
  obtain ⟨e1, e2⟩ := flat_get l j hj
  rw [Nat.zero_add, h.cell, h.cell]
  exact ⟨by simpa using e1, by simpa using e2⟩
theorem Blk.atM {w : World} {b b' : Nat} {cs : Array Value} {t : TypeId} (h : Blk w b cs t) (e : b = b') : Blk w b' cs t := e ▸ h
set_option maxHeartbeats 4000000 in
theorem secondM_any (w : World) : Calls Try.prog 26 #[] w fun e w' => (∃ y, e = .returned (.agg #[.int .i64 2, .slice (some y) 2 2]) ∧ PinsAt w' (.slice (some y) 2 2) [(1, 2), (2, 1)]) ∧ Below w.heap.size w w' := by
  go_enter Try.func26, Try.ntmps26
  go_wp2
  refine bodyPost_ret (v := .agg #[.int .i64 2, .slice (some ⟨w.heap.size + 1, 0, none⟩) 2 2]) (by simp [results, Try.results26, go_sem]) rfl ⟨⟨_, rfl, ?_⟩, ?_⟩
  · exact pins_blkM (l := [(1, 2), (2, 1)]) ((blk_alloc _ _ 69).atM (by simp)) (by simp)
  · first | exact ((((Below.refl _ w).alloc (Nat.le_refl _) _).alloc (by simp) _).setCell (Nat.le_refl _) _).setCell (Nat.le_refl _) _ | exact ((Below.refl _ w).alloc (Nat.le_refl _) _).alloc (by simp) _
def postM : Wy.Mail := ⟨1, 2, true, true, 0, []⟩
def postO : Wy.Mail := ⟨2, 3, false, false, 2, [(1, 2), (2, 1)]⟩
theorem post_send : Wy.sendM [postM] postO = ([postM, postO], 0) := by kernel_rfl
theorem post_take : Wy.takeM [postM, postO] 0 false = ([postO], postM, 0) := by kernel_rfl
theorem post_take2 : Wy.takeM [postO] 1 true = ([], Wy.Mail.none, 5) := by kernel_rfl
set_option maxHeartbeats 16000000 in
set_option maxRecDepth 100000 in
theorem posted_any (w : World) : Calls Try.prog 17 #[] w fun e w' => e = .returned (.bool true) ∧ Below w.heap.size w w' := by
  have HM0 := box1 w #[.int .i64 1, .int .i64 2, .bool true, .bool true, .int .i64 0, .slice none 0 0] 52
  go_enter Try.func17, Try.ntmps17
  go_wp2_with fail
  generalize (w.alloc (.cells #[.int .i64 1, .int .i64 2, .bool true, .bool true, .int .i64 0, .slice none 0 0] 52)) = w0 at HM0 ⊢
  obtain ⟨hB0, hK0⟩ := HM0
  refine (secondM_any w0).mono ?_
  rintro e w1 ⟨⟨y, rfl, hy⟩, hb1⟩
  have hK1 := hK0.below hb1
  have hB1 := hB0.trans (hb1.mono hB0.size)
  obtain ⟨hb2, hO2⟩ := box1 w1 #[.int .i64 2, .int .i64 3, .bool false, .bool false, .int .i64 2, .slice (some y) 2 2] 52
  have hK2 := hK1.below hb2
  have hB2 := hB1.trans (hb2.mono hB1.size)
  have hy2 := hy.below hb2
  have k0 := hK2.cell 0
  have k1 := hK2.cell 1
  have k2 := hK2.cell 2
  have k3 := hK2.cell 3
  have k4 := hK2.cell 4
  have k5 := hK2.cell 5
  simp only [List.getElem?_toArray, List.getElem?_cons_zero, List.getElem?_cons_succ] at k0 k1 k2 k3 k4 k5
  have o0 := hO2.cell 0
  have o1 := hO2.cell 1
  have o2 := hO2.cell 2
  have o3 := hO2.cell 3
  have o4 := hO2.cell 4
  have o5 := hO2.cell 5
  simp only [List.getElem?_toArray, List.getElem?_cons_zero, List.getElem?_cons_succ] at o0 o1 o2 o3 o4 o5
  have hone := mail_one (w1.alloc (.cells #[.int .i64 2, .int .i64 3, .bool false, .bool false, .int .i64 2, .slice (some y) 2 2] 52)) postM (.slice none 0 0) (pins_none _)
  obtain ⟨hb3, hL3⟩ := box1 (w1.alloc (.cells #[.int .i64 2, .int .i64 3, .bool false, .bool false, .int .i64 2, .slice (some y) 2 2] 52)) #[.int .i64 1, .int .i64 2, .bool true, .bool true, .int .i64 0, .slice none 0 0] 52
  have HS := mlSend_any _ (.slice (some y) 2 2) _ postO _ hone (hy2.below hb3)
  rw [show ([(postM, Value.slice none 0 0)] : List (Wy.Mail × Value)).map Prod.fst = [postM] from rfl, post_send] at HS
  unfold mailV postO at HS
  simp only at HS
  have HK3 : Hid (Blk _ w.heap.size _ _) := hK2.below hb3
  have HO3 : Hid (Blk _ w1.heap.size _ _) := hO2.below hb3
  have HY3 : Hid (PinsAt _ _ _) := hy2.below hb3
  have HB3 : Hid (Below w.heap.size w _) := hB2.trans (hb3.mono hB2.size)
  have hs1 : w.heap.size ≤ w1.heap.size := hB1.size
  rw [World.size_alloc] at HS
  clear hone hb3 hL3 hy2 hy hb1 hb2 hK0 hB0 hK1 hB1 hK2 hB2 hO2
  go_wp2_with fail
  refine HS.mono ?_
  rintro e w3 ⟨⟨v3, rs3, rfl, hM3, hr3⟩, hb3⟩
  obtain ⟨a3, c3, rfl⟩ := mails_slice hM3
  have hn3 : rs3.length = 2 := by have := congrArg List.length hr3; simpa using this
  have hB3 := HB3.out.trans (hb3.mono HB3.out.size)
  have hT := mlTake_any _ rs3 0 false w3 hM3
  rw [hr3, show (⟨2, 3, false, false, 2, [(1, 2), (2, 1)]⟩ : Wy.Mail) = postO from rfl, post_take] at hT
  have HT := hT
  have HK4 : Hid (Blk w3 w.heap.size _ _) := HK3.out.below hb3
  have HO4 : Hid (Blk w3 w1.heap.size _ _) := HO3.out.below hb3
  have HY4 : Hid (PinsAt w3 _ _) := HY3.out.below hb3
  have HB4 : Hid (Below w.heap.size w w3) := hB3
  clear hT hr3 hM3 hb3 hB3 HB3 HY3 HO3 HK3 HS k0 k1 k2 k3 k4 k5 o0 o1 o2 o3 o4 o5
  rw [hn3] at HT ⊢
  unfold postM mailV at HT
  simp only at HT
  go_wp2_with fail
  refine HT.mono ?_
  rintro e w5 ⟨⟨v5, rs5, u5, rfl, hM5, hr5, hu5⟩, hb5⟩
  obtain ⟨a5, c5, rfl⟩ := mails_slice hM5
  obtain ⟨ua, uc, rfl⟩ := pins_slice hu5
  have hn5 : rs5.length = 1 := by have := congrArg List.length hr5; simpa using this
  obtain ⟨hb6, hX6⟩ := box1 w5 #[.int .i64 1, .int .i64 2, .bool true, .bool true, .int .i64 0, .slice ua 0 uc] 52
  have hT := mlTake_any _ rs5 1 true (w5.alloc (.cells #[.int .i64 1, .int .i64 2, .bool true, .bool true, .int .i64 0, .slice ua 0 uc] 52)) (hM5.below hb6)
  rw [hr5, post_take2] at hT
  have HT2 := hT
  have hb56 := hb5.trans (hb6.mono hb5.size)
  have HK6 : Hid (Blk (w5.alloc (.cells #[.int .i64 1, .int .i64 2, .bool true, .bool true, .int .i64 0, .slice ua 0 uc] 52)) w.heap.size _ _) := HK4.out.below hb56
  have HO6 : Hid (Blk (w5.alloc (.cells #[.int .i64 1, .int .i64 2, .bool true, .bool true, .int .i64 0, .slice ua 0 uc] 52)) w1.heap.size _ _) := HO4.out.below hb56
  have HX6 : Hid (Blk (w5.alloc (.cells #[.int .i64 1, .int .i64 2, .bool true, .bool true, .int .i64 0, .slice ua 0 uc] 52)) w5.heap.size _ _) := hX6
  have HY6 : Hid (PinsAt (w5.alloc (.cells #[.int .i64 1, .int .i64 2, .bool true, .bool true, .int .i64 0, .slice ua 0 uc] 52)) _ _) := HY4.out.below hb56
  have HU6 : Hid (PinsAt (w5.alloc (.cells #[.int .i64 1, .int .i64 2, .bool true, .bool true, .int .i64 0, .slice ua 0 uc] 52)) (.slice ua 0 uc) []) := hu5.below hb6
  have HB6 : Hid (Below w.heap.size w (w5.alloc (.cells #[.int .i64 1, .int .i64 2, .bool true, .bool true, .int .i64 0, .slice ua 0 uc] 52))) := HB4.out.trans (hb56.mono HB4.out.size)
  have HM6 : Hid (MailsAt (w5.alloc (.cells #[.int .i64 1, .int .i64 2, .bool true, .bool true, .int .i64 0, .slice ua 0 uc] 52)) (.slice a5 rs5.length c5) rs5) := hM5.below hb6
  have HR5 : Hid (rs5.map Prod.fst = [postO]) := hr5
  clear hT hr5 hM5 hb5 hb6 hb56 hX6 hu5 HK4 HO4 HY4 HB4 HT
  rw [hn5] at HT2 HM6 ⊢
  unfold mailV Wy.Mail.none at HT2
  simp only at HT2
  go_wp2_with fail
  refine HT2.mono ?_
  rintro e w7 ⟨⟨v7, rs7, u7, rfl, hM7, hr7, hu7⟩, hb7⟩
  obtain ⟨a7, c7, rfl⟩ := mails_slice hM7
  obtain ⟨ub, ud, rfl⟩ := pins_slice hu7
  obtain ⟨hb8, -⟩ := box1 w7 #[.int .i64 0, .int .i64 0, .bool false, .bool false, .int .i64 0, .slice ub 0 ud] 52
  have hb78 := hb7.trans (hb8.mono hb7.size)
  have hK8 := HK6.out.below hb78
  have hO8 := HO6.out.below hb78
  have hX8 := HX6.out.below hb78
  have HY8 : Hid (PinsAt (w7.alloc (.cells #[.int .i64 0, .int .i64 0, .bool false, .bool false, .int .i64 0, .slice ub 0 ud] 52)) _ _) := HY6.out.below hb78
  have HU8 : Hid (PinsAt (w7.alloc (.cells #[.int .i64 0, .int .i64 0, .bool false, .bool false, .int .i64 0, .slice ub 0 ud] 52)) _ _) := HU6.out.below hb78
  have HM8 : Hid (MailsAt (w7.alloc (.cells #[.int .i64 0, .int .i64 0, .bool false, .bool false, .int .i64 0, .slice ub 0 ud] 52)) _ _) := HM6.out.below hb78
  have HB8 : Hid (Below w.heap.size w (w7.alloc (.cells #[.int .i64 0, .int .i64 0, .bool false, .bool false, .int .i64 0, .slice ub 0 ud] 52))) := HB6.out.trans (hb78.mono HB6.out.size)
  have k0 := hK8.cell 0
  have k1 := hK8.cell 1
  have k2 := hK8.cell 2
  have k3 := hK8.cell 3
  have k4 := hK8.cell 4
  have k5 := hK8.cell 5
  simp only [List.getElem?_toArray, List.getElem?_cons_zero, List.getElem?_cons_succ] at k0 k1 k2 k3 k4 k5
  have o0 := hO8.cell 0
  have o1 := hO8.cell 1
  have o2 := hO8.cell 2
  have o3 := hO8.cell 3
  have o4 := hO8.cell 4
  have o5 := hO8.cell 5
  simp only [List.getElem?_toArray, List.getElem?_cons_zero, List.getElem?_cons_succ] at o0 o1 o2 o3 o4 o5
  have x0 := hX8.cell 0
  have x1 := hX8.cell 1
  have x2 := hX8.cell 2
  have x3 := hX8.cell 3
  have x4 := hX8.cell 4
  have x5 := hX8.cell 5
  simp only [List.getElem?_toArray, List.getElem?_cons_zero, List.getElem?_cons_succ] at x0 x1 x2 x3 x4 x5
  have HK8 : Hid (Blk _ w.heap.size _ _) := hK8
  have HO8 : Hid (Blk _ w1.heap.size _ _) := hO8
  have HX8 : Hid (Blk _ w5.heap.size _ _) := hX8
  clear hb7 hb8 hb78 hK8 hO8 hX8 HK6 HO6 HX6 HY6 HU6 HM6 HB6 HT2 hM7 hr7 hu7
  have HWs : Hid ((w7.alloc (.cells #[.int .i64 0, .int .i64 0, .bool false, .bool false, .int .i64 0, .slice ub 0 ud] 52)).heap.size = w7.heap.size + 1) := by show _ = _; simp
  go_wp2_with fail
  generalize (w7.alloc (.cells #[.int .i64 0, .int .i64 0, .bool false, .bool false, .int .i64 0, .slice ub 0 ud] 52)) = W at *
  obtain ⟨hb9, -⟩ := box1 W #[.int .i64 2, .int .i64 3, .bool false, .bool false, .int .i64 2, .slice (some y) 2 2] 52
  have hS1 := mlSame_any _ _ rs5 [(postO, .slice (some y) 2 2)] _ (HM8.out.below hb9) (mail_one W postO (.slice (some y) 2 2) HY8.out)
  rw [HR5.out, show ([(postO, Value.slice (some y) 2 2)] : List (Wy.Mail × Value)).map Prod.fst = [postO] from rfl, Wy.sameMail_self, HWs.out] at hS1
  have HS1 := hS1
  have HB9 : Hid (Below w.heap.size w (W.alloc (.cells #[.int .i64 2, .int .i64 3, .bool false, .bool false, .int .i64 2, .slice (some y) 2 2] 52))) := HB8.out.trans (hb9.mono HB8.out.size)
  have HK9 : Hid (Blk (W.alloc (.cells #[.int .i64 2, .int .i64 3, .bool false, .bool false, .int .i64 2, .slice (some y) 2 2] 52)) w.heap.size _ _) := HK8.out.below hb9
  have HX9 : Hid (Blk (W.alloc (.cells #[.int .i64 2, .int .i64 3, .bool false, .bool false, .int .i64 2, .slice (some y) 2 2] 52)) w5.heap.size _ _) := HX8.out.below hb9
  have HU9 : Hid (PinsAt (W.alloc (.cells #[.int .i64 2, .int .i64 3, .bool false, .bool false, .int .i64 2, .slice (some y) 2 2] 52)) _ _) := HU8.out.below hb9
  clear hS1 hb9 HK8 HX8 HU8 HB8
  refine HS1.mono ?_
  rintro e w9 ⟨rfl, hb9⟩
  have hK9 := HK9.out.below hb9
  have hX9 := HX9.out.below hb9
  have hU9 := HU9.out.below hb9
  have kk0 := hK9.cell 0
  have kk1 := hK9.cell 1
  have kk2 := hK9.cell 2
  have kk3 := hK9.cell 3
  have kk4 := hK9.cell 4
  have kk5 := hK9.cell 5
  simp only [List.getElem?_toArray, List.getElem?_cons_zero, List.getElem?_cons_succ] at kk0 kk1 kk2 kk3 kk4 kk5
  have xx0 := hX9.cell 0
  have xx1 := hX9.cell 1
  have xx2 := hX9.cell 2
  have xx3 := hX9.cell 3
  have xx4 := hX9.cell 4
  have xx5 := hX9.cell 5
  simp only [List.getElem?_toArray, List.getElem?_cons_zero, List.getElem?_cons_succ] at xx0 xx1 xx2 xx3 xx4 xx5
  have hB9 := HB9.out.trans (hb9.mono HB9.out.size)
  obtain ⟨hbA, -⟩ := box1 w9 #[.int .i64 1, .int .i64 2, .bool true, .bool true, .int .i64 0, .slice ua 0 uc] 52
  obtain ⟨hbB, -⟩ := box1 (w9.alloc (.cells #[.int .i64 1, .int .i64 2, .bool true, .bool true, .int .i64 0, .slice ua 0 uc] 52)) #[.int .i64 1, .int .i64 2, .bool true, .bool true, .int .i64 0, .slice none 0 0] 52
  have hA1 := (mail_one w9 postM (.slice ua 0 uc) hU9).below hbB
  have hA2 := mail_one (w9.alloc (.cells #[.int .i64 1, .int .i64 2, .bool true, .bool true, .int .i64 0, .slice ua 0 uc] 52)) postM (.slice none 0 0) (pins_none _)
  have hS2 := mlSame_any _ _ _ _ _ hA1 hA2
  rw [show ([(postM, Value.slice ua 0 uc)] : List (Wy.Mail × Value)).map Prod.fst = [postM] from rfl, show ([(postM, Value.slice none 0 0)] : List (Wy.Mail × Value)).map Prod.fst = [postM] from rfl, Wy.sameMail_self, World.size_alloc] at hS2
  have HS2 := hS2
  have hBB := hbA.trans (hbB.mono hbA.size)
  have HBB : Hid (Below w.heap.size w ((w9.alloc (.cells #[.int .i64 1, .int .i64 2, .bool true, .bool true, .int .i64 0, .slice ua 0 uc] 52)).alloc (.cells #[.int .i64 1, .int .i64 2, .bool true, .bool true, .int .i64 0, .slice none 0 0] 52))) := hB9.trans (hBB.mono hB9.size)
  have hlt9 : w.heap.size < w9.heap.size := hK9.lt
  clear hb9 hK9 hX9 hU9 hB9 hbA hbB hA1 hA2 hS2 hBB HB9 HK9 HX9 HU9 HS1
  go_wp2_with fail
  refine HS2.mono ?_
  rintro e wA ⟨rfl, hbC⟩
  have HBC : Hid (Below w.heap.size w wA) := HBB.out.trans (hbC.mono HBB.out.size)
  clear hbC HS2 HBB
  go_wp2
  go_ret
  exact ⟨rfl, HBC.out⟩
end Go.Proofs.Ytbdefihgplcdoae
