/- Spans: the document's Meet. -/
import Derived.Test.YtdmobdiffobdkaaSpanG
namespace Go.Proofs.Ytdmobdiffobdkaa.Ver
set_option linter.unusedVariables false
set_option linter.unusedSimpArgs false
open Go.RowKit Go.Shelf

set_option maxHeartbeats 2000000 in
theorem rmeet_EEt (a a' b b' : ByteArray) (w : World) (za : a.size ≤ maxLen) (za' : a'.size ≤ maxLen) (zb : b.size ≤ maxLen) (zb' : b'.size ≤ maxLen) (sa : spanB a.data.toList a'.data.toList = true) (sb : spanB b.data.toList b'.data.toList = true) (eb : b.toList.isEmpty = true) (eb1 : b'.toList.isEmpty = true) (hs : spanB a.data.toList a'.data.toList = true) :
    Calls Try.prog 38 #[spv a a', spv b b'] w fun e w' => e = .returned (rd a a' true) ∧ Below w.heap.size w w' := by
  have SA : Hid (Says 30 #[spv a a'] (.bool true)) := Lib.hid (by have h := rspanMay_any a a' za za'; rwa [sa] at h)
  have SB : Hid (Says 30 #[spv b b'] (.bool true)) := Lib.hid (by have h := rspanMay_any b b' zb zb'; rwa [sb] at h)
  have SX : Hid (Says 30 #[spv a a'] (.bool true)) := Lib.hid (by have h := rspanMay_any a a' za za'; rwa [hs] at h)
  have J := Lib.hid (MJ.start w a a' b b')
  clear sa sb hs za za' zb zb'
  go_enter Try.func38, Try.ntmps38
  go_wp2_with fail
  go_at_call 30; refine (SA.out _).mono ?_; rintro e w1 ⟨rfl, hb⟩; have J := Lib.hid (J.out.step hb); clear hb; obtain ⟨a0, a1, b0, b1, r0, r1, f0, f1⟩ := J.out.cells
  go_wp2_with fail
  go_at_call 30; refine (SB.out _).mono ?_; rintro e w2 ⟨rfl, hb⟩; clear a0 a1 b0 b1 r0 r1 f0 f1; have J := Lib.hid (J.out.step hb); clear hb; obtain ⟨a0, a1, b0, b1, r0, r1, f0, f1⟩ := J.out.cells
  have K := Lib.hid (MK.start J.out a a')
  obtain ⟨p0, p1, p2, p3, p4, p5, p6, p7⟩ := K.out.j.cells
  have lt0 := J.out.a.lt
  have lt1 := J.out.b.lt
  have lt2 := K.out.lt
  have K := Lib.hid (MK.start J.out a a')
  obtain ⟨u0, u1, u2, u3, u4, u5, u6, u7⟩ := K.out.j.cells
  obtain ⟨k0, k1, g0, g1⟩ := K.out.cells
  go_wp2_with fail
  go_at_call 30; refine (SX.out _).mono ?_; rintro e w5 ⟨rfl, hb⟩; have K := Lib.hid (K.out.step hb); clear hb; obtain ⟨a0, a1, b0, b1, r0, r1, f0, f1⟩ := K.out.j.cells; obtain ⟨k0, k1, g0, g1⟩ := K.out.cells
  go_wp2_with fail
  exact bodyPost_ret (v := rd a a' true) (by simp [results, Try.results38, go_sem, r0, r1, f0, f1]) rfl ⟨rfl, K.out.j.out _ _⟩

set_option maxHeartbeats 2000000 in
theorem rmeet_EEf (a a' b b' : ByteArray) (w : World) (za : a.size ≤ maxLen) (za' : a'.size ≤ maxLen) (zb : b.size ≤ maxLen) (zb' : b'.size ≤ maxLen) (sa : spanB a.data.toList a'.data.toList = true) (sb : spanB b.data.toList b'.data.toList = true) (eb : b.toList.isEmpty = true) (eb1 : b'.toList.isEmpty = true) (hs : spanB a.data.toList a'.data.toList = false) :
    Calls Try.prog 38 #[spv a a', spv b b'] w fun e w' => e = .returned (rd ⟨#[]⟩ ⟨#[]⟩ false) ∧ Below w.heap.size w w' := by
  have SA : Hid (Says 30 #[spv a a'] (.bool true)) := Lib.hid (by have h := rspanMay_any a a' za za'; rwa [sa] at h)
  have SB : Hid (Says 30 #[spv b b'] (.bool true)) := Lib.hid (by have h := rspanMay_any b b' zb zb'; rwa [sb] at h)
  have SX : Hid (Says 30 #[spv a a'] (.bool false)) := Lib.hid (by have h := rspanMay_any a a' za za'; rwa [hs] at h)
  have J := Lib.hid (MJ.start w a a' b b')
  clear sa sb hs za za' zb zb'
  go_enter Try.func38, Try.ntmps38
  go_wp2_with fail
  go_at_call 30; refine (SA.out _).mono ?_; rintro e w1 ⟨rfl, hb⟩; have J := Lib.hid (J.out.step hb); clear hb; obtain ⟨a0, a1, b0, b1, r0, r1, f0, f1⟩ := J.out.cells
  go_wp2_with fail
  go_at_call 30; refine (SB.out _).mono ?_; rintro e w2 ⟨rfl, hb⟩; clear a0 a1 b0 b1 r0 r1 f0 f1; have J := Lib.hid (J.out.step hb); clear hb; obtain ⟨a0, a1, b0, b1, r0, r1, f0, f1⟩ := J.out.cells
  have K := Lib.hid (MK.start J.out a a')
  obtain ⟨p0, p1, p2, p3, p4, p5, p6, p7⟩ := K.out.j.cells
  have lt0 := J.out.a.lt
  have lt1 := J.out.b.lt
  have lt2 := K.out.lt
  have K := Lib.hid (MK.start J.out a a')
  obtain ⟨u0, u1, u2, u3, u4, u5, u6, u7⟩ := K.out.j.cells
  obtain ⟨k0, k1, g0, g1⟩ := K.out.cells
  go_wp2_with fail
  go_at_call 30; refine (SX.out _).mono ?_; rintro e w5 ⟨rfl, hb⟩; have K := Lib.hid (K.out.step hb); clear hb; obtain ⟨a0, a1, b0, b1, r0, r1, f0, f1⟩ := K.out.j.cells; obtain ⟨k0, k1, g0, g1⟩ := K.out.cells
  go_wp2_with fail
  exact bodyPost_ret (v := rd ⟨#[]⟩ ⟨#[]⟩ false) (by simp [results, Try.results38, go_sem, r0, r1, f0, f1]) rfl ⟨rfl, K.out.j.out _ _⟩

set_option maxHeartbeats 2000000 in
theorem rmeet_EAt (a a' b b' : ByteArray) (w : World) (za : a.size ≤ maxLen) (za' : a'.size ≤ maxLen) (zb : b.size ≤ maxLen) (zb' : b'.size ≤ maxLen) (sa : spanB a.data.toList a'.data.toList = true) (sb : spanB b.data.toList b'.data.toList = true) (eb : b.toList.isEmpty = true) (eb1 : b'.toList.isEmpty = false) (ea1 : a'.toList.isEmpty = true) (hs : spanB a.data.toList b'.data.toList = true) :
    Calls Try.prog 38 #[spv a a', spv b b'] w fun e w' => e = .returned (rd a b' true) ∧ Below w.heap.size w w' := by
  have SA : Hid (Says 30 #[spv a a'] (.bool true)) := Lib.hid (by have h := rspanMay_any a a' za za'; rwa [sa] at h)
  have SB : Hid (Says 30 #[spv b b'] (.bool true)) := Lib.hid (by have h := rspanMay_any b b' zb zb'; rwa [sb] at h)
  have SX : Hid (Says 30 #[spv a b'] (.bool true)) := Lib.hid (by have h := rspanMay_any a b' za zb'; rwa [hs] at h)
  have J := Lib.hid (MJ.start w a a' b b')
  clear sa sb hs za za' zb zb'
  go_enter Try.func38, Try.ntmps38
  go_wp2_with fail
  go_at_call 30; refine (SA.out _).mono ?_; rintro e w1 ⟨rfl, hb⟩; have J := Lib.hid (J.out.step hb); clear hb; obtain ⟨a0, a1, b0, b1, r0, r1, f0, f1⟩ := J.out.cells
  go_wp2_with fail
  go_at_call 30; refine (SB.out _).mono ?_; rintro e w2 ⟨rfl, hb⟩; clear a0 a1 b0 b1 r0 r1 f0 f1; have J := Lib.hid (J.out.step hb); clear hb; obtain ⟨a0, a1, b0, b1, r0, r1, f0, f1⟩ := J.out.cells
  have K := Lib.hid (MK.start J.out a a')
  obtain ⟨p0, p1, p2, p3, p4, p5, p6, p7⟩ := K.out.j.cells
  have lt0 := J.out.a.lt
  have lt1 := J.out.b.lt
  have lt2 := K.out.lt
  have K := Lib.hid (MK.start J.out a b')
  obtain ⟨u0, u1, u2, u3, u4, u5, u6, u7⟩ := K.out.j.cells
  obtain ⟨k0, k1, g0, g1⟩ := K.out.cells
  go_wp2_with fail
  go_at_call 30; refine (SX.out _).mono ?_; rintro e w5 ⟨rfl, hb⟩; have K := Lib.hid (K.out.step hb); clear hb; obtain ⟨a0, a1, b0, b1, r0, r1, f0, f1⟩ := K.out.j.cells; obtain ⟨k0, k1, g0, g1⟩ := K.out.cells
  go_wp2_with fail
  exact bodyPost_ret (v := rd a b' true) (by simp [results, Try.results38, go_sem, r0, r1, f0, f1]) rfl ⟨rfl, K.out.j.out _ _⟩

set_option maxHeartbeats 2000000 in
theorem rmeet_EAf (a a' b b' : ByteArray) (w : World) (za : a.size ≤ maxLen) (za' : a'.size ≤ maxLen) (zb : b.size ≤ maxLen) (zb' : b'.size ≤ maxLen) (sa : spanB a.data.toList a'.data.toList = true) (sb : spanB b.data.toList b'.data.toList = true) (eb : b.toList.isEmpty = true) (eb1 : b'.toList.isEmpty = false) (ea1 : a'.toList.isEmpty = true) (hs : spanB a.data.toList b'.data.toList = false) :
    Calls Try.prog 38 #[spv a a', spv b b'] w fun e w' => e = .returned (rd ⟨#[]⟩ ⟨#[]⟩ false) ∧ Below w.heap.size w w' := by
  have SA : Hid (Says 30 #[spv a a'] (.bool true)) := Lib.hid (by have h := rspanMay_any a a' za za'; rwa [sa] at h)
  have SB : Hid (Says 30 #[spv b b'] (.bool true)) := Lib.hid (by have h := rspanMay_any b b' zb zb'; rwa [sb] at h)
  have SX : Hid (Says 30 #[spv a b'] (.bool false)) := Lib.hid (by have h := rspanMay_any a b' za zb'; rwa [hs] at h)
  have J := Lib.hid (MJ.start w a a' b b')
  clear sa sb hs za za' zb zb'
  go_enter Try.func38, Try.ntmps38
  go_wp2_with fail
  go_at_call 30; refine (SA.out _).mono ?_; rintro e w1 ⟨rfl, hb⟩; have J := Lib.hid (J.out.step hb); clear hb; obtain ⟨a0, a1, b0, b1, r0, r1, f0, f1⟩ := J.out.cells
  go_wp2_with fail
  go_at_call 30; refine (SB.out _).mono ?_; rintro e w2 ⟨rfl, hb⟩; clear a0 a1 b0 b1 r0 r1 f0 f1; have J := Lib.hid (J.out.step hb); clear hb; obtain ⟨a0, a1, b0, b1, r0, r1, f0, f1⟩ := J.out.cells
  have K := Lib.hid (MK.start J.out a a')
  obtain ⟨p0, p1, p2, p3, p4, p5, p6, p7⟩ := K.out.j.cells
  have lt0 := J.out.a.lt
  have lt1 := J.out.b.lt
  have lt2 := K.out.lt
  have K := Lib.hid (MK.start J.out a b')
  obtain ⟨u0, u1, u2, u3, u4, u5, u6, u7⟩ := K.out.j.cells
  obtain ⟨k0, k1, g0, g1⟩ := K.out.cells
  go_wp2_with fail
  go_at_call 30; refine (SX.out _).mono ?_; rintro e w5 ⟨rfl, hb⟩; have K := Lib.hid (K.out.step hb); clear hb; obtain ⟨a0, a1, b0, b1, r0, r1, f0, f1⟩ := K.out.j.cells; obtain ⟨k0, k1, g0, g1⟩ := K.out.cells
  go_wp2_with fail
  exact bodyPost_ret (v := rd ⟨#[]⟩ ⟨#[]⟩ false) (by simp [results, Try.results38, go_sem, r0, r1, f0, f1]) rfl ⟨rfl, K.out.j.out _ _⟩

set_option maxHeartbeats 2000000 in
theorem rmeet_EFt (a a' b b' : ByteArray) (w : World) (za : a.size ≤ maxLen) (za' : a'.size ≤ maxLen) (zb : b.size ≤ maxLen) (zb' : b'.size ≤ maxLen) (sa : spanB a.data.toList a'.data.toList = true) (sb : spanB b.data.toList b'.data.toList = true) (eb : b.toList.isEmpty = true) (eb1 : b'.toList.isEmpty = false) (ea1 : a'.toList.isEmpty = false) (hh : decide (cmpV b'.data.toList a'.data.toList < 0) = false) (hs : spanB a.data.toList a'.data.toList = true) :
    Calls Try.prog 38 #[spv a a', spv b b'] w fun e w' => e = .returned (rd a a' true) ∧ Below w.heap.size w w' := by
  have SA : Hid (Says 30 #[spv a a'] (.bool true)) := Lib.hid (by have h := rspanMay_any a a' za za'; rwa [sa] at h)
  have SB : Hid (Says 30 #[spv b b'] (.bool true)) := Lib.hid (by have h := rspanMay_any b b' zb zb'; rwa [sb] at h)
  have SX : Hid (Says 30 #[spv a a'] (.bool true)) := Lib.hid (by have h := rspanMay_any a a' za za'; rwa [hs] at h)
  have HI : Hid (Says 24 #[.string b', .string a'] (.bool false)) := Lib.hid (fun w => by have h := less_any b' a' w zb' za'; rwa [hh] at h)
  have J := Lib.hid (MJ.start w a a' b b')
  clear sa sb hs za za' zb zb' hh
  go_enter Try.func38, Try.ntmps38
  go_wp2_with fail
  go_at_call 30; refine (SA.out _).mono ?_; rintro e w1 ⟨rfl, hb⟩; have J := Lib.hid (J.out.step hb); clear hb; obtain ⟨a0, a1, b0, b1, r0, r1, f0, f1⟩ := J.out.cells
  go_wp2_with fail
  go_at_call 30; refine (SB.out _).mono ?_; rintro e w2 ⟨rfl, hb⟩; clear a0 a1 b0 b1 r0 r1 f0 f1; have J := Lib.hid (J.out.step hb); clear hb; obtain ⟨a0, a1, b0, b1, r0, r1, f0, f1⟩ := J.out.cells
  have K := Lib.hid (MK.start J.out a a')
  obtain ⟨p0, p1, p2, p3, p4, p5, p6, p7⟩ := K.out.j.cells
  have lt0 := J.out.a.lt
  have lt1 := J.out.b.lt
  have lt2 := K.out.lt
  have K := Lib.hid (MK.start J.out a a')
  obtain ⟨u0, u1, u2, u3, u4, u5, u6, u7⟩ := K.out.j.cells
  obtain ⟨k0, k1, g0, g1⟩ := K.out.cells
  go_wp2_with fail
  go_at_call 24; refine (HI.out _).mono ?_; rintro e w4 ⟨rfl, hb⟩; have K := Lib.hid (K.out.step hb); clear hb; obtain ⟨a0, a1, b0, b1, r0, r1, f0, f1⟩ := K.out.j.cells; obtain ⟨k0, k1, g0, g1⟩ := K.out.cells
  go_wp2_with fail
  go_at_call 30; refine (SX.out _).mono ?_; rintro e w5 ⟨rfl, hb⟩; have K := Lib.hid (K.out.step hb); clear hb; obtain ⟨a0, a1, b0, b1, r0, r1, f0, f1⟩ := K.out.j.cells; obtain ⟨k0, k1, g0, g1⟩ := K.out.cells
  go_wp2_with fail
  exact bodyPost_ret (v := rd a a' true) (by simp [results, Try.results38, go_sem, r0, r1, f0, f1]) rfl ⟨rfl, K.out.j.out _ _⟩

set_option maxHeartbeats 2000000 in
theorem rmeet_EFf (a a' b b' : ByteArray) (w : World) (za : a.size ≤ maxLen) (za' : a'.size ≤ maxLen) (zb : b.size ≤ maxLen) (zb' : b'.size ≤ maxLen) (sa : spanB a.data.toList a'.data.toList = true) (sb : spanB b.data.toList b'.data.toList = true) (eb : b.toList.isEmpty = true) (eb1 : b'.toList.isEmpty = false) (ea1 : a'.toList.isEmpty = false) (hh : decide (cmpV b'.data.toList a'.data.toList < 0) = false) (hs : spanB a.data.toList a'.data.toList = false) :
    Calls Try.prog 38 #[spv a a', spv b b'] w fun e w' => e = .returned (rd ⟨#[]⟩ ⟨#[]⟩ false) ∧ Below w.heap.size w w' := by
  have SA : Hid (Says 30 #[spv a a'] (.bool true)) := Lib.hid (by have h := rspanMay_any a a' za za'; rwa [sa] at h)
  have SB : Hid (Says 30 #[spv b b'] (.bool true)) := Lib.hid (by have h := rspanMay_any b b' zb zb'; rwa [sb] at h)
  have SX : Hid (Says 30 #[spv a a'] (.bool false)) := Lib.hid (by have h := rspanMay_any a a' za za'; rwa [hs] at h)
  have HI : Hid (Says 24 #[.string b', .string a'] (.bool false)) := Lib.hid (fun w => by have h := less_any b' a' w zb' za'; rwa [hh] at h)
  have J := Lib.hid (MJ.start w a a' b b')
  clear sa sb hs za za' zb zb' hh
  go_enter Try.func38, Try.ntmps38
  go_wp2_with fail
  go_at_call 30; refine (SA.out _).mono ?_; rintro e w1 ⟨rfl, hb⟩; have J := Lib.hid (J.out.step hb); clear hb; obtain ⟨a0, a1, b0, b1, r0, r1, f0, f1⟩ := J.out.cells
  go_wp2_with fail
  go_at_call 30; refine (SB.out _).mono ?_; rintro e w2 ⟨rfl, hb⟩; clear a0 a1 b0 b1 r0 r1 f0 f1; have J := Lib.hid (J.out.step hb); clear hb; obtain ⟨a0, a1, b0, b1, r0, r1, f0, f1⟩ := J.out.cells
  have K := Lib.hid (MK.start J.out a a')
  obtain ⟨p0, p1, p2, p3, p4, p5, p6, p7⟩ := K.out.j.cells
  have lt0 := J.out.a.lt
  have lt1 := J.out.b.lt
  have lt2 := K.out.lt
  have K := Lib.hid (MK.start J.out a a')
  obtain ⟨u0, u1, u2, u3, u4, u5, u6, u7⟩ := K.out.j.cells
  obtain ⟨k0, k1, g0, g1⟩ := K.out.cells
  go_wp2_with fail
  go_at_call 24; refine (HI.out _).mono ?_; rintro e w4 ⟨rfl, hb⟩; have K := Lib.hid (K.out.step hb); clear hb; obtain ⟨a0, a1, b0, b1, r0, r1, f0, f1⟩ := K.out.j.cells; obtain ⟨k0, k1, g0, g1⟩ := K.out.cells
  go_wp2_with fail
  go_at_call 30; refine (SX.out _).mono ?_; rintro e w5 ⟨rfl, hb⟩; have K := Lib.hid (K.out.step hb); clear hb; obtain ⟨a0, a1, b0, b1, r0, r1, f0, f1⟩ := K.out.j.cells; obtain ⟨k0, k1, g0, g1⟩ := K.out.cells
  go_wp2_with fail
  exact bodyPost_ret (v := rd ⟨#[]⟩ ⟨#[]⟩ false) (by simp [results, Try.results38, go_sem, r0, r1, f0, f1]) rfl ⟨rfl, K.out.j.out _ _⟩

set_option maxHeartbeats 2000000 in
theorem rmeet_ETt (a a' b b' : ByteArray) (w : World) (za : a.size ≤ maxLen) (za' : a'.size ≤ maxLen) (zb : b.size ≤ maxLen) (zb' : b'.size ≤ maxLen) (sa : spanB a.data.toList a'.data.toList = true) (sb : spanB b.data.toList b'.data.toList = true) (eb : b.toList.isEmpty = true) (eb1 : b'.toList.isEmpty = false) (ea1 : a'.toList.isEmpty = false) (hh : decide (cmpV b'.data.toList a'.data.toList < 0) = true) (hs : spanB a.data.toList b'.data.toList = true) :
    Calls Try.prog 38 #[spv a a', spv b b'] w fun e w' => e = .returned (rd a b' true) ∧ Below w.heap.size w w' := by
  have SA : Hid (Says 30 #[spv a a'] (.bool true)) := Lib.hid (by have h := rspanMay_any a a' za za'; rwa [sa] at h)
  have SB : Hid (Says 30 #[spv b b'] (.bool true)) := Lib.hid (by have h := rspanMay_any b b' zb zb'; rwa [sb] at h)
  have SX : Hid (Says 30 #[spv a b'] (.bool true)) := Lib.hid (by have h := rspanMay_any a b' za zb'; rwa [hs] at h)
  have HI : Hid (Says 24 #[.string b', .string a'] (.bool true)) := Lib.hid (fun w => by have h := less_any b' a' w zb' za'; rwa [hh] at h)
  have J := Lib.hid (MJ.start w a a' b b')
  clear sa sb hs za za' zb zb' hh
  go_enter Try.func38, Try.ntmps38
  go_wp2_with fail
  go_at_call 30; refine (SA.out _).mono ?_; rintro e w1 ⟨rfl, hb⟩; have J := Lib.hid (J.out.step hb); clear hb; obtain ⟨a0, a1, b0, b1, r0, r1, f0, f1⟩ := J.out.cells
  go_wp2_with fail
  go_at_call 30; refine (SB.out _).mono ?_; rintro e w2 ⟨rfl, hb⟩; clear a0 a1 b0 b1 r0 r1 f0 f1; have J := Lib.hid (J.out.step hb); clear hb; obtain ⟨a0, a1, b0, b1, r0, r1, f0, f1⟩ := J.out.cells
  have K := Lib.hid (MK.start J.out a a')
  obtain ⟨p0, p1, p2, p3, p4, p5, p6, p7⟩ := K.out.j.cells
  have lt0 := J.out.a.lt
  have lt1 := J.out.b.lt
  have lt2 := K.out.lt
  have K := Lib.hid (MK.start J.out a a')
  obtain ⟨u0, u1, u2, u3, u4, u5, u6, u7⟩ := K.out.j.cells
  obtain ⟨k0, k1, g0, g1⟩ := K.out.cells
  go_wp2_with fail
  go_at_call 24; refine (HI.out _).mono ?_; rintro e w4 ⟨rfl, hb⟩; have K := Lib.hid (K.out.step hb); clear hb; obtain ⟨a0, a1, b0, b1, r0, r1, f0, f1⟩ := K.out.j.cells; obtain ⟨k0, k1, g0, g1⟩ := K.out.cells
  have K := Lib.hid (K.out.set1 b')
  obtain ⟨x0, x1, x2, x3, x4, x5, x6, x7⟩ := K.out.j.cells
  obtain ⟨y0, y1, y2, y3⟩ := K.out.cells
  go_wp2_with fail
  go_at_call 30; refine (SX.out _).mono ?_; rintro e w5 ⟨rfl, hb⟩; have K := Lib.hid (K.out.step hb); clear hb; obtain ⟨a0, a1, b0, b1, r0, r1, f0, f1⟩ := K.out.j.cells; obtain ⟨k0, k1, g0, g1⟩ := K.out.cells
  go_wp2_with fail
  exact bodyPost_ret (v := rd a b' true) (by simp [results, Try.results38, go_sem, r0, r1, f0, f1]) rfl ⟨rfl, K.out.j.out _ _⟩

set_option maxHeartbeats 2000000 in
theorem rmeet_ETf (a a' b b' : ByteArray) (w : World) (za : a.size ≤ maxLen) (za' : a'.size ≤ maxLen) (zb : b.size ≤ maxLen) (zb' : b'.size ≤ maxLen) (sa : spanB a.data.toList a'.data.toList = true) (sb : spanB b.data.toList b'.data.toList = true) (eb : b.toList.isEmpty = true) (eb1 : b'.toList.isEmpty = false) (ea1 : a'.toList.isEmpty = false) (hh : decide (cmpV b'.data.toList a'.data.toList < 0) = true) (hs : spanB a.data.toList b'.data.toList = false) :
    Calls Try.prog 38 #[spv a a', spv b b'] w fun e w' => e = .returned (rd ⟨#[]⟩ ⟨#[]⟩ false) ∧ Below w.heap.size w w' := by
  have SA : Hid (Says 30 #[spv a a'] (.bool true)) := Lib.hid (by have h := rspanMay_any a a' za za'; rwa [sa] at h)
  have SB : Hid (Says 30 #[spv b b'] (.bool true)) := Lib.hid (by have h := rspanMay_any b b' zb zb'; rwa [sb] at h)
  have SX : Hid (Says 30 #[spv a b'] (.bool false)) := Lib.hid (by have h := rspanMay_any a b' za zb'; rwa [hs] at h)
  have HI : Hid (Says 24 #[.string b', .string a'] (.bool true)) := Lib.hid (fun w => by have h := less_any b' a' w zb' za'; rwa [hh] at h)
  have J := Lib.hid (MJ.start w a a' b b')
  clear sa sb hs za za' zb zb' hh
  go_enter Try.func38, Try.ntmps38
  go_wp2_with fail
  go_at_call 30; refine (SA.out _).mono ?_; rintro e w1 ⟨rfl, hb⟩; have J := Lib.hid (J.out.step hb); clear hb; obtain ⟨a0, a1, b0, b1, r0, r1, f0, f1⟩ := J.out.cells
  go_wp2_with fail
  go_at_call 30; refine (SB.out _).mono ?_; rintro e w2 ⟨rfl, hb⟩; clear a0 a1 b0 b1 r0 r1 f0 f1; have J := Lib.hid (J.out.step hb); clear hb; obtain ⟨a0, a1, b0, b1, r0, r1, f0, f1⟩ := J.out.cells
  have K := Lib.hid (MK.start J.out a a')
  obtain ⟨p0, p1, p2, p3, p4, p5, p6, p7⟩ := K.out.j.cells
  have lt0 := J.out.a.lt
  have lt1 := J.out.b.lt
  have lt2 := K.out.lt
  have K := Lib.hid (MK.start J.out a a')
  obtain ⟨u0, u1, u2, u3, u4, u5, u6, u7⟩ := K.out.j.cells
  obtain ⟨k0, k1, g0, g1⟩ := K.out.cells
  go_wp2_with fail
  go_at_call 24; refine (HI.out _).mono ?_; rintro e w4 ⟨rfl, hb⟩; have K := Lib.hid (K.out.step hb); clear hb; obtain ⟨a0, a1, b0, b1, r0, r1, f0, f1⟩ := K.out.j.cells; obtain ⟨k0, k1, g0, g1⟩ := K.out.cells
  have K := Lib.hid (K.out.set1 b')
  obtain ⟨x0, x1, x2, x3, x4, x5, x6, x7⟩ := K.out.j.cells
  obtain ⟨y0, y1, y2, y3⟩ := K.out.cells
  go_wp2_with fail
  go_at_call 30; refine (SX.out _).mono ?_; rintro e w5 ⟨rfl, hb⟩; have K := Lib.hid (K.out.step hb); clear hb; obtain ⟨a0, a1, b0, b1, r0, r1, f0, f1⟩ := K.out.j.cells; obtain ⟨k0, k1, g0, g1⟩ := K.out.cells
  go_wp2_with fail
  exact bodyPost_ret (v := rd ⟨#[]⟩ ⟨#[]⟩ false) (by simp [results, Try.results38, go_sem, r0, r1, f0, f1]) rfl ⟨rfl, K.out.j.out _ _⟩

set_option maxHeartbeats 2000000 in
theorem rmeet_AEt (a a' b b' : ByteArray) (w : World) (za : a.size ≤ maxLen) (za' : a'.size ≤ maxLen) (zb : b.size ≤ maxLen) (zb' : b'.size ≤ maxLen) (sa : spanB a.data.toList a'.data.toList = true) (sb : spanB b.data.toList b'.data.toList = true) (eb : b.toList.isEmpty = false) (ea : a.toList.isEmpty = true) (eb1 : b'.toList.isEmpty = true) (hs : spanB b.data.toList a'.data.toList = true) :
    Calls Try.prog 38 #[spv a a', spv b b'] w fun e w' => e = .returned (rd b a' true) ∧ Below w.heap.size w w' := by
  have SA : Hid (Says 30 #[spv a a'] (.bool true)) := Lib.hid (by have h := rspanMay_any a a' za za'; rwa [sa] at h)
  have SB : Hid (Says 30 #[spv b b'] (.bool true)) := Lib.hid (by have h := rspanMay_any b b' zb zb'; rwa [sb] at h)
  have SX : Hid (Says 30 #[spv b a'] (.bool true)) := Lib.hid (by have h := rspanMay_any b a' zb za'; rwa [hs] at h)
  have J := Lib.hid (MJ.start w a a' b b')
  clear sa sb hs za za' zb zb'
  go_enter Try.func38, Try.ntmps38
  go_wp2_with fail
  go_at_call 30; refine (SA.out _).mono ?_; rintro e w1 ⟨rfl, hb⟩; have J := Lib.hid (J.out.step hb); clear hb; obtain ⟨a0, a1, b0, b1, r0, r1, f0, f1⟩ := J.out.cells
  go_wp2_with fail
  go_at_call 30; refine (SB.out _).mono ?_; rintro e w2 ⟨rfl, hb⟩; clear a0 a1 b0 b1 r0 r1 f0 f1; have J := Lib.hid (J.out.step hb); clear hb; obtain ⟨a0, a1, b0, b1, r0, r1, f0, f1⟩ := J.out.cells
  have K := Lib.hid (MK.start J.out a a')
  obtain ⟨p0, p1, p2, p3, p4, p5, p6, p7⟩ := K.out.j.cells
  have lt0 := J.out.a.lt
  have lt1 := J.out.b.lt
  have lt2 := K.out.lt
  have K := Lib.hid (MK.start J.out b a')
  obtain ⟨u0, u1, u2, u3, u4, u5, u6, u7⟩ := K.out.j.cells
  obtain ⟨k0, k1, g0, g1⟩ := K.out.cells
  go_wp2_with fail
  go_at_call 30; refine (SX.out _).mono ?_; rintro e w5 ⟨rfl, hb⟩; have K := Lib.hid (K.out.step hb); clear hb; obtain ⟨a0, a1, b0, b1, r0, r1, f0, f1⟩ := K.out.j.cells; obtain ⟨k0, k1, g0, g1⟩ := K.out.cells
  go_wp2_with fail
  exact bodyPost_ret (v := rd b a' true) (by simp [results, Try.results38, go_sem, r0, r1, f0, f1]) rfl ⟨rfl, K.out.j.out _ _⟩

set_option maxHeartbeats 2000000 in
theorem rmeet_AEf (a a' b b' : ByteArray) (w : World) (za : a.size ≤ maxLen) (za' : a'.size ≤ maxLen) (zb : b.size ≤ maxLen) (zb' : b'.size ≤ maxLen) (sa : spanB a.data.toList a'.data.toList = true) (sb : spanB b.data.toList b'.data.toList = true) (eb : b.toList.isEmpty = false) (ea : a.toList.isEmpty = true) (eb1 : b'.toList.isEmpty = true) (hs : spanB b.data.toList a'.data.toList = false) :
    Calls Try.prog 38 #[spv a a', spv b b'] w fun e w' => e = .returned (rd ⟨#[]⟩ ⟨#[]⟩ false) ∧ Below w.heap.size w w' := by
  have SA : Hid (Says 30 #[spv a a'] (.bool true)) := Lib.hid (by have h := rspanMay_any a a' za za'; rwa [sa] at h)
  have SB : Hid (Says 30 #[spv b b'] (.bool true)) := Lib.hid (by have h := rspanMay_any b b' zb zb'; rwa [sb] at h)
  have SX : Hid (Says 30 #[spv b a'] (.bool false)) := Lib.hid (by have h := rspanMay_any b a' zb za'; rwa [hs] at h)
  have J := Lib.hid (MJ.start w a a' b b')
  clear sa sb hs za za' zb zb'
  go_enter Try.func38, Try.ntmps38
  go_wp2_with fail
  go_at_call 30; refine (SA.out _).mono ?_; rintro e w1 ⟨rfl, hb⟩; have J := Lib.hid (J.out.step hb); clear hb; obtain ⟨a0, a1, b0, b1, r0, r1, f0, f1⟩ := J.out.cells
  go_wp2_with fail
  go_at_call 30; refine (SB.out _).mono ?_; rintro e w2 ⟨rfl, hb⟩; clear a0 a1 b0 b1 r0 r1 f0 f1; have J := Lib.hid (J.out.step hb); clear hb; obtain ⟨a0, a1, b0, b1, r0, r1, f0, f1⟩ := J.out.cells
  have K := Lib.hid (MK.start J.out a a')
  obtain ⟨p0, p1, p2, p3, p4, p5, p6, p7⟩ := K.out.j.cells
  have lt0 := J.out.a.lt
  have lt1 := J.out.b.lt
  have lt2 := K.out.lt
  have K := Lib.hid (MK.start J.out b a')
  obtain ⟨u0, u1, u2, u3, u4, u5, u6, u7⟩ := K.out.j.cells
  obtain ⟨k0, k1, g0, g1⟩ := K.out.cells
  go_wp2_with fail
  go_at_call 30; refine (SX.out _).mono ?_; rintro e w5 ⟨rfl, hb⟩; have K := Lib.hid (K.out.step hb); clear hb; obtain ⟨a0, a1, b0, b1, r0, r1, f0, f1⟩ := K.out.j.cells; obtain ⟨k0, k1, g0, g1⟩ := K.out.cells
  go_wp2_with fail
  exact bodyPost_ret (v := rd ⟨#[]⟩ ⟨#[]⟩ false) (by simp [results, Try.results38, go_sem, r0, r1, f0, f1]) rfl ⟨rfl, K.out.j.out _ _⟩

set_option maxHeartbeats 2000000 in
theorem rmeet_AAt (a a' b b' : ByteArray) (w : World) (za : a.size ≤ maxLen) (za' : a'.size ≤ maxLen) (zb : b.size ≤ maxLen) (zb' : b'.size ≤ maxLen) (sa : spanB a.data.toList a'.data.toList = true) (sb : spanB b.data.toList b'.data.toList = true) (eb : b.toList.isEmpty = false) (ea : a.toList.isEmpty = true) (eb1 : b'.toList.isEmpty = false) (ea1 : a'.toList.isEmpty = true) (hs : spanB b.data.toList b'.data.toList = true) :
    Calls Try.prog 38 #[spv a a', spv b b'] w fun e w' => e = .returned (rd b b' true) ∧ Below w.heap.size w w' := by
  have SA : Hid (Says 30 #[spv a a'] (.bool true)) := Lib.hid (by have h := rspanMay_any a a' za za'; rwa [sa] at h)
  have SB : Hid (Says 30 #[spv b b'] (.bool true)) := Lib.hid (by have h := rspanMay_any b b' zb zb'; rwa [sb] at h)
  have SX : Hid (Says 30 #[spv b b'] (.bool true)) := Lib.hid (by have h := rspanMay_any b b' zb zb'; rwa [hs] at h)
  have J := Lib.hid (MJ.start w a a' b b')
  clear sa sb hs za za' zb zb'
  go_enter Try.func38, Try.ntmps38
  go_wp2_with fail
  go_at_call 30; refine (SA.out _).mono ?_; rintro e w1 ⟨rfl, hb⟩; have J := Lib.hid (J.out.step hb); clear hb; obtain ⟨a0, a1, b0, b1, r0, r1, f0, f1⟩ := J.out.cells
  go_wp2_with fail
  go_at_call 30; refine (SB.out _).mono ?_; rintro e w2 ⟨rfl, hb⟩; clear a0 a1 b0 b1 r0 r1 f0 f1; have J := Lib.hid (J.out.step hb); clear hb; obtain ⟨a0, a1, b0, b1, r0, r1, f0, f1⟩ := J.out.cells
  have K := Lib.hid (MK.start J.out a a')
  obtain ⟨p0, p1, p2, p3, p4, p5, p6, p7⟩ := K.out.j.cells
  have lt0 := J.out.a.lt
  have lt1 := J.out.b.lt
  have lt2 := K.out.lt
  have K := Lib.hid (MK.start J.out b b')
  obtain ⟨u0, u1, u2, u3, u4, u5, u6, u7⟩ := K.out.j.cells
  obtain ⟨k0, k1, g0, g1⟩ := K.out.cells
  go_wp2_with fail
  go_at_call 30; refine (SX.out _).mono ?_; rintro e w5 ⟨rfl, hb⟩; have K := Lib.hid (K.out.step hb); clear hb; obtain ⟨a0, a1, b0, b1, r0, r1, f0, f1⟩ := K.out.j.cells; obtain ⟨k0, k1, g0, g1⟩ := K.out.cells
  go_wp2_with fail
  exact bodyPost_ret (v := rd b b' true) (by simp [results, Try.results38, go_sem, r0, r1, f0, f1]) rfl ⟨rfl, K.out.j.out _ _⟩

set_option maxHeartbeats 2000000 in
theorem rmeet_AAf (a a' b b' : ByteArray) (w : World) (za : a.size ≤ maxLen) (za' : a'.size ≤ maxLen) (zb : b.size ≤ maxLen) (zb' : b'.size ≤ maxLen) (sa : spanB a.data.toList a'.data.toList = true) (sb : spanB b.data.toList b'.data.toList = true) (eb : b.toList.isEmpty = false) (ea : a.toList.isEmpty = true) (eb1 : b'.toList.isEmpty = false) (ea1 : a'.toList.isEmpty = true) (hs : spanB b.data.toList b'.data.toList = false) :
    Calls Try.prog 38 #[spv a a', spv b b'] w fun e w' => e = .returned (rd ⟨#[]⟩ ⟨#[]⟩ false) ∧ Below w.heap.size w w' := by
  have SA : Hid (Says 30 #[spv a a'] (.bool true)) := Lib.hid (by have h := rspanMay_any a a' za za'; rwa [sa] at h)
  have SB : Hid (Says 30 #[spv b b'] (.bool true)) := Lib.hid (by have h := rspanMay_any b b' zb zb'; rwa [sb] at h)
  have SX : Hid (Says 30 #[spv b b'] (.bool false)) := Lib.hid (by have h := rspanMay_any b b' zb zb'; rwa [hs] at h)
  have J := Lib.hid (MJ.start w a a' b b')
  clear sa sb hs za za' zb zb'
  go_enter Try.func38, Try.ntmps38
  go_wp2_with fail
  go_at_call 30; refine (SA.out _).mono ?_; rintro e w1 ⟨rfl, hb⟩; have J := Lib.hid (J.out.step hb); clear hb; obtain ⟨a0, a1, b0, b1, r0, r1, f0, f1⟩ := J.out.cells
  go_wp2_with fail
  go_at_call 30; refine (SB.out _).mono ?_; rintro e w2 ⟨rfl, hb⟩; clear a0 a1 b0 b1 r0 r1 f0 f1; have J := Lib.hid (J.out.step hb); clear hb; obtain ⟨a0, a1, b0, b1, r0, r1, f0, f1⟩ := J.out.cells
  have K := Lib.hid (MK.start J.out a a')
  obtain ⟨p0, p1, p2, p3, p4, p5, p6, p7⟩ := K.out.j.cells
  have lt0 := J.out.a.lt
  have lt1 := J.out.b.lt
  have lt2 := K.out.lt
  have K := Lib.hid (MK.start J.out b b')
  obtain ⟨u0, u1, u2, u3, u4, u5, u6, u7⟩ := K.out.j.cells
  obtain ⟨k0, k1, g0, g1⟩ := K.out.cells
  go_wp2_with fail
  go_at_call 30; refine (SX.out _).mono ?_; rintro e w5 ⟨rfl, hb⟩; have K := Lib.hid (K.out.step hb); clear hb; obtain ⟨a0, a1, b0, b1, r0, r1, f0, f1⟩ := K.out.j.cells; obtain ⟨k0, k1, g0, g1⟩ := K.out.cells
  go_wp2_with fail
  exact bodyPost_ret (v := rd ⟨#[]⟩ ⟨#[]⟩ false) (by simp [results, Try.results38, go_sem, r0, r1, f0, f1]) rfl ⟨rfl, K.out.j.out _ _⟩

set_option maxHeartbeats 2000000 in
theorem rmeet_AFt (a a' b b' : ByteArray) (w : World) (za : a.size ≤ maxLen) (za' : a'.size ≤ maxLen) (zb : b.size ≤ maxLen) (zb' : b'.size ≤ maxLen) (sa : spanB a.data.toList a'.data.toList = true) (sb : spanB b.data.toList b'.data.toList = true) (eb : b.toList.isEmpty = false) (ea : a.toList.isEmpty = true) (eb1 : b'.toList.isEmpty = false) (ea1 : a'.toList.isEmpty = false) (hh : decide (cmpV b'.data.toList a'.data.toList < 0) = false) (hs : spanB b.data.toList a'.data.toList = true) :
    Calls Try.prog 38 #[spv a a', spv b b'] w fun e w' => e = .returned (rd b a' true) ∧ Below w.heap.size w w' := by
  have SA : Hid (Says 30 #[spv a a'] (.bool true)) := Lib.hid (by have h := rspanMay_any a a' za za'; rwa [sa] at h)
  have SB : Hid (Says 30 #[spv b b'] (.bool true)) := Lib.hid (by have h := rspanMay_any b b' zb zb'; rwa [sb] at h)
  have SX : Hid (Says 30 #[spv b a'] (.bool true)) := Lib.hid (by have h := rspanMay_any b a' zb za'; rwa [hs] at h)
  have HI : Hid (Says 24 #[.string b', .string a'] (.bool false)) := Lib.hid (fun w => by have h := less_any b' a' w zb' za'; rwa [hh] at h)
  have J := Lib.hid (MJ.start w a a' b b')
  clear sa sb hs za za' zb zb' hh
  go_enter Try.func38, Try.ntmps38
  go_wp2_with fail
  go_at_call 30; refine (SA.out _).mono ?_; rintro e w1 ⟨rfl, hb⟩; have J := Lib.hid (J.out.step hb); clear hb; obtain ⟨a0, a1, b0, b1, r0, r1, f0, f1⟩ := J.out.cells
  go_wp2_with fail
  go_at_call 30; refine (SB.out _).mono ?_; rintro e w2 ⟨rfl, hb⟩; clear a0 a1 b0 b1 r0 r1 f0 f1; have J := Lib.hid (J.out.step hb); clear hb; obtain ⟨a0, a1, b0, b1, r0, r1, f0, f1⟩ := J.out.cells
  have K := Lib.hid (MK.start J.out a a')
  obtain ⟨p0, p1, p2, p3, p4, p5, p6, p7⟩ := K.out.j.cells
  have lt0 := J.out.a.lt
  have lt1 := J.out.b.lt
  have lt2 := K.out.lt
  have K := Lib.hid (MK.start J.out b a')
  obtain ⟨u0, u1, u2, u3, u4, u5, u6, u7⟩ := K.out.j.cells
  obtain ⟨k0, k1, g0, g1⟩ := K.out.cells
  go_wp2_with fail
  go_at_call 24; refine (HI.out _).mono ?_; rintro e w4 ⟨rfl, hb⟩; have K := Lib.hid (K.out.step hb); clear hb; obtain ⟨a0, a1, b0, b1, r0, r1, f0, f1⟩ := K.out.j.cells; obtain ⟨k0, k1, g0, g1⟩ := K.out.cells
  go_wp2_with fail
  go_at_call 30; refine (SX.out _).mono ?_; rintro e w5 ⟨rfl, hb⟩; have K := Lib.hid (K.out.step hb); clear hb; obtain ⟨a0, a1, b0, b1, r0, r1, f0, f1⟩ := K.out.j.cells; obtain ⟨k0, k1, g0, g1⟩ := K.out.cells
  go_wp2_with fail
  exact bodyPost_ret (v := rd b a' true) (by simp [results, Try.results38, go_sem, r0, r1, f0, f1]) rfl ⟨rfl, K.out.j.out _ _⟩

set_option maxHeartbeats 2000000 in
theorem rmeet_AFf (a a' b b' : ByteArray) (w : World) (za : a.size ≤ maxLen) (za' : a'.size ≤ maxLen) (zb : b.size ≤ maxLen) (zb' : b'.size ≤ maxLen) (sa : spanB a.data.toList a'.data.toList = true) (sb : spanB b.data.toList b'.data.toList = true) (eb : b.toList.isEmpty = false) (ea : a.toList.isEmpty = true) (eb1 : b'.toList.isEmpty = false) (ea1 : a'.toList.isEmpty = false) (hh : decide (cmpV b'.data.toList a'.data.toList < 0) = false) (hs : spanB b.data.toList a'.data.toList = false) :
    Calls Try.prog 38 #[spv a a', spv b b'] w fun e w' => e = .returned (rd ⟨#[]⟩ ⟨#[]⟩ false) ∧ Below w.heap.size w w' := by
  have SA : Hid (Says 30 #[spv a a'] (.bool true)) := Lib.hid (by have h := rspanMay_any a a' za za'; rwa [sa] at h)
  have SB : Hid (Says 30 #[spv b b'] (.bool true)) := Lib.hid (by have h := rspanMay_any b b' zb zb'; rwa [sb] at h)
  have SX : Hid (Says 30 #[spv b a'] (.bool false)) := Lib.hid (by have h := rspanMay_any b a' zb za'; rwa [hs] at h)
  have HI : Hid (Says 24 #[.string b', .string a'] (.bool false)) := Lib.hid (fun w => by have h := less_any b' a' w zb' za'; rwa [hh] at h)
  have J := Lib.hid (MJ.start w a a' b b')
  clear sa sb hs za za' zb zb' hh
  go_enter Try.func38, Try.ntmps38
  go_wp2_with fail
  go_at_call 30; refine (SA.out _).mono ?_; rintro e w1 ⟨rfl, hb⟩; have J := Lib.hid (J.out.step hb); clear hb; obtain ⟨a0, a1, b0, b1, r0, r1, f0, f1⟩ := J.out.cells
  go_wp2_with fail
  go_at_call 30; refine (SB.out _).mono ?_; rintro e w2 ⟨rfl, hb⟩; clear a0 a1 b0 b1 r0 r1 f0 f1; have J := Lib.hid (J.out.step hb); clear hb; obtain ⟨a0, a1, b0, b1, r0, r1, f0, f1⟩ := J.out.cells
  have K := Lib.hid (MK.start J.out a a')
  obtain ⟨p0, p1, p2, p3, p4, p5, p6, p7⟩ := K.out.j.cells
  have lt0 := J.out.a.lt
  have lt1 := J.out.b.lt
  have lt2 := K.out.lt
  have K := Lib.hid (MK.start J.out b a')
  obtain ⟨u0, u1, u2, u3, u4, u5, u6, u7⟩ := K.out.j.cells
  obtain ⟨k0, k1, g0, g1⟩ := K.out.cells
  go_wp2_with fail
  go_at_call 24; refine (HI.out _).mono ?_; rintro e w4 ⟨rfl, hb⟩; have K := Lib.hid (K.out.step hb); clear hb; obtain ⟨a0, a1, b0, b1, r0, r1, f0, f1⟩ := K.out.j.cells; obtain ⟨k0, k1, g0, g1⟩ := K.out.cells
  go_wp2_with fail
  go_at_call 30; refine (SX.out _).mono ?_; rintro e w5 ⟨rfl, hb⟩; have K := Lib.hid (K.out.step hb); clear hb; obtain ⟨a0, a1, b0, b1, r0, r1, f0, f1⟩ := K.out.j.cells; obtain ⟨k0, k1, g0, g1⟩ := K.out.cells
  go_wp2_with fail
  exact bodyPost_ret (v := rd ⟨#[]⟩ ⟨#[]⟩ false) (by simp [results, Try.results38, go_sem, r0, r1, f0, f1]) rfl ⟨rfl, K.out.j.out _ _⟩

set_option maxHeartbeats 2000000 in
theorem rmeet_ATt (a a' b b' : ByteArray) (w : World) (za : a.size ≤ maxLen) (za' : a'.size ≤ maxLen) (zb : b.size ≤ maxLen) (zb' : b'.size ≤ maxLen) (sa : spanB a.data.toList a'.data.toList = true) (sb : spanB b.data.toList b'.data.toList = true) (eb : b.toList.isEmpty = false) (ea : a.toList.isEmpty = true) (eb1 : b'.toList.isEmpty = false) (ea1 : a'.toList.isEmpty = false) (hh : decide (cmpV b'.data.toList a'.data.toList < 0) = true) (hs : spanB b.data.toList b'.data.toList = true) :
    Calls Try.prog 38 #[spv a a', spv b b'] w fun e w' => e = .returned (rd b b' true) ∧ Below w.heap.size w w' := by
  have SA : Hid (Says 30 #[spv a a'] (.bool true)) := Lib.hid (by have h := rspanMay_any a a' za za'; rwa [sa] at h)
  have SB : Hid (Says 30 #[spv b b'] (.bool true)) := Lib.hid (by have h := rspanMay_any b b' zb zb'; rwa [sb] at h)
  have SX : Hid (Says 30 #[spv b b'] (.bool true)) := Lib.hid (by have h := rspanMay_any b b' zb zb'; rwa [hs] at h)
  have HI : Hid (Says 24 #[.string b', .string a'] (.bool true)) := Lib.hid (fun w => by have h := less_any b' a' w zb' za'; rwa [hh] at h)
  have J := Lib.hid (MJ.start w a a' b b')
  clear sa sb hs za za' zb zb' hh
  go_enter Try.func38, Try.ntmps38
  go_wp2_with fail
  go_at_call 30; refine (SA.out _).mono ?_; rintro e w1 ⟨rfl, hb⟩; have J := Lib.hid (J.out.step hb); clear hb; obtain ⟨a0, a1, b0, b1, r0, r1, f0, f1⟩ := J.out.cells
  go_wp2_with fail
  go_at_call 30; refine (SB.out _).mono ?_; rintro e w2 ⟨rfl, hb⟩; clear a0 a1 b0 b1 r0 r1 f0 f1; have J := Lib.hid (J.out.step hb); clear hb; obtain ⟨a0, a1, b0, b1, r0, r1, f0, f1⟩ := J.out.cells
  have K := Lib.hid (MK.start J.out a a')
  obtain ⟨p0, p1, p2, p3, p4, p5, p6, p7⟩ := K.out.j.cells
  have lt0 := J.out.a.lt
  have lt1 := J.out.b.lt
  have lt2 := K.out.lt
  have K := Lib.hid (MK.start J.out b a')
  obtain ⟨u0, u1, u2, u3, u4, u5, u6, u7⟩ := K.out.j.cells
  obtain ⟨k0, k1, g0, g1⟩ := K.out.cells
  go_wp2_with fail
  go_at_call 24; refine (HI.out _).mono ?_; rintro e w4 ⟨rfl, hb⟩; have K := Lib.hid (K.out.step hb); clear hb; obtain ⟨a0, a1, b0, b1, r0, r1, f0, f1⟩ := K.out.j.cells; obtain ⟨k0, k1, g0, g1⟩ := K.out.cells
  have K := Lib.hid (K.out.set1 b')
  obtain ⟨x0, x1, x2, x3, x4, x5, x6, x7⟩ := K.out.j.cells
  obtain ⟨y0, y1, y2, y3⟩ := K.out.cells
  go_wp2_with fail
  go_at_call 30; refine (SX.out _).mono ?_; rintro e w5 ⟨rfl, hb⟩; have K := Lib.hid (K.out.step hb); clear hb; obtain ⟨a0, a1, b0, b1, r0, r1, f0, f1⟩ := K.out.j.cells; obtain ⟨k0, k1, g0, g1⟩ := K.out.cells
  go_wp2_with fail
  exact bodyPost_ret (v := rd b b' true) (by simp [results, Try.results38, go_sem, r0, r1, f0, f1]) rfl ⟨rfl, K.out.j.out _ _⟩

set_option maxHeartbeats 2000000 in
theorem rmeet_ATf (a a' b b' : ByteArray) (w : World) (za : a.size ≤ maxLen) (za' : a'.size ≤ maxLen) (zb : b.size ≤ maxLen) (zb' : b'.size ≤ maxLen) (sa : spanB a.data.toList a'.data.toList = true) (sb : spanB b.data.toList b'.data.toList = true) (eb : b.toList.isEmpty = false) (ea : a.toList.isEmpty = true) (eb1 : b'.toList.isEmpty = false) (ea1 : a'.toList.isEmpty = false) (hh : decide (cmpV b'.data.toList a'.data.toList < 0) = true) (hs : spanB b.data.toList b'.data.toList = false) :
    Calls Try.prog 38 #[spv a a', spv b b'] w fun e w' => e = .returned (rd ⟨#[]⟩ ⟨#[]⟩ false) ∧ Below w.heap.size w w' := by
  have SA : Hid (Says 30 #[spv a a'] (.bool true)) := Lib.hid (by have h := rspanMay_any a a' za za'; rwa [sa] at h)
  have SB : Hid (Says 30 #[spv b b'] (.bool true)) := Lib.hid (by have h := rspanMay_any b b' zb zb'; rwa [sb] at h)
  have SX : Hid (Says 30 #[spv b b'] (.bool false)) := Lib.hid (by have h := rspanMay_any b b' zb zb'; rwa [hs] at h)
  have HI : Hid (Says 24 #[.string b', .string a'] (.bool true)) := Lib.hid (fun w => by have h := less_any b' a' w zb' za'; rwa [hh] at h)
  have J := Lib.hid (MJ.start w a a' b b')
  clear sa sb hs za za' zb zb' hh
  go_enter Try.func38, Try.ntmps38
  go_wp2_with fail
  go_at_call 30; refine (SA.out _).mono ?_; rintro e w1 ⟨rfl, hb⟩; have J := Lib.hid (J.out.step hb); clear hb; obtain ⟨a0, a1, b0, b1, r0, r1, f0, f1⟩ := J.out.cells
  go_wp2_with fail
  go_at_call 30; refine (SB.out _).mono ?_; rintro e w2 ⟨rfl, hb⟩; clear a0 a1 b0 b1 r0 r1 f0 f1; have J := Lib.hid (J.out.step hb); clear hb; obtain ⟨a0, a1, b0, b1, r0, r1, f0, f1⟩ := J.out.cells
  have K := Lib.hid (MK.start J.out a a')
  obtain ⟨p0, p1, p2, p3, p4, p5, p6, p7⟩ := K.out.j.cells
  have lt0 := J.out.a.lt
  have lt1 := J.out.b.lt
  have lt2 := K.out.lt
  have K := Lib.hid (MK.start J.out b a')
  obtain ⟨u0, u1, u2, u3, u4, u5, u6, u7⟩ := K.out.j.cells
  obtain ⟨k0, k1, g0, g1⟩ := K.out.cells
  go_wp2_with fail
  go_at_call 24; refine (HI.out _).mono ?_; rintro e w4 ⟨rfl, hb⟩; have K := Lib.hid (K.out.step hb); clear hb; obtain ⟨a0, a1, b0, b1, r0, r1, f0, f1⟩ := K.out.j.cells; obtain ⟨k0, k1, g0, g1⟩ := K.out.cells
  have K := Lib.hid (K.out.set1 b')
  obtain ⟨x0, x1, x2, x3, x4, x5, x6, x7⟩ := K.out.j.cells
  obtain ⟨y0, y1, y2, y3⟩ := K.out.cells
  go_wp2_with fail
  go_at_call 30; refine (SX.out _).mono ?_; rintro e w5 ⟨rfl, hb⟩; have K := Lib.hid (K.out.step hb); clear hb; obtain ⟨a0, a1, b0, b1, r0, r1, f0, f1⟩ := K.out.j.cells; obtain ⟨k0, k1, g0, g1⟩ := K.out.cells
  go_wp2_with fail
  exact bodyPost_ret (v := rd ⟨#[]⟩ ⟨#[]⟩ false) (by simp [results, Try.results38, go_sem, r0, r1, f0, f1]) rfl ⟨rfl, K.out.j.out _ _⟩

set_option maxHeartbeats 2000000 in
theorem rmeet_FEt (a a' b b' : ByteArray) (w : World) (za : a.size ≤ maxLen) (za' : a'.size ≤ maxLen) (zb : b.size ≤ maxLen) (zb' : b'.size ≤ maxLen) (sa : spanB a.data.toList a'.data.toList = true) (sb : spanB b.data.toList b'.data.toList = true) (eb : b.toList.isEmpty = false) (ea : a.toList.isEmpty = false) (eb1 : b'.toList.isEmpty = true) (hl : decide (cmpV a.data.toList b.data.toList < 0) = false) (hs : spanB a.data.toList a'.data.toList = true) :
    Calls Try.prog 38 #[spv a a', spv b b'] w fun e w' => e = .returned (rd a a' true) ∧ Below w.heap.size w w' := by
  have SA : Hid (Says 30 #[spv a a'] (.bool true)) := Lib.hid (by have h := rspanMay_any a a' za za'; rwa [sa] at h)
  have SB : Hid (Says 30 #[spv b b'] (.bool true)) := Lib.hid (by have h := rspanMay_any b b' zb zb'; rwa [sb] at h)
  have SX : Hid (Says 30 #[spv a a'] (.bool true)) := Lib.hid (by have h := rspanMay_any a a' za za'; rwa [hs] at h)
  have LO : Hid (Says 24 #[.string a, .string b] (.bool false)) := Lib.hid (fun w => by have h := less_any a b w za zb; rwa [hl] at h)
  have J := Lib.hid (MJ.start w a a' b b')
  clear sa sb hs za za' zb zb' hl
  go_enter Try.func38, Try.ntmps38
  go_wp2_with fail
  go_at_call 30; refine (SA.out _).mono ?_; rintro e w1 ⟨rfl, hb⟩; have J := Lib.hid (J.out.step hb); clear hb; obtain ⟨a0, a1, b0, b1, r0, r1, f0, f1⟩ := J.out.cells
  go_wp2_with fail
  go_at_call 30; refine (SB.out _).mono ?_; rintro e w2 ⟨rfl, hb⟩; clear a0 a1 b0 b1 r0 r1 f0 f1; have J := Lib.hid (J.out.step hb); clear hb; obtain ⟨a0, a1, b0, b1, r0, r1, f0, f1⟩ := J.out.cells
  have K := Lib.hid (MK.start J.out a a')
  obtain ⟨p0, p1, p2, p3, p4, p5, p6, p7⟩ := K.out.j.cells
  have lt0 := J.out.a.lt
  have lt1 := J.out.b.lt
  have lt2 := K.out.lt
  go_wp2_with fail
  go_at_call 24; refine (LO.out _).mono ?_; rintro e w3 ⟨rfl, hb⟩; clear a0 a1 b0 b1 r0 r1 f0 f1 p0 p1 p2 p3 p4 p5 p6 p7 lt0 lt1; have K := Lib.hid (K.out.step hb); clear hb; obtain ⟨a0, a1, b0, b1, r0, r1, f0, f1⟩ := K.out.j.cells; obtain ⟨k0, k1, g0, g1⟩ := K.out.cells
  go_wp2_with fail
  go_at_call 30; refine (SX.out _).mono ?_; rintro e w5 ⟨rfl, hb⟩; have K := Lib.hid (K.out.step hb); clear hb; obtain ⟨a0, a1, b0, b1, r0, r1, f0, f1⟩ := K.out.j.cells; obtain ⟨k0, k1, g0, g1⟩ := K.out.cells
  go_wp2_with fail
  exact bodyPost_ret (v := rd a a' true) (by simp [results, Try.results38, go_sem, r0, r1, f0, f1]) rfl ⟨rfl, K.out.j.out _ _⟩

set_option maxHeartbeats 2000000 in
theorem rmeet_FEf (a a' b b' : ByteArray) (w : World) (za : a.size ≤ maxLen) (za' : a'.size ≤ maxLen) (zb : b.size ≤ maxLen) (zb' : b'.size ≤ maxLen) (sa : spanB a.data.toList a'.data.toList = true) (sb : spanB b.data.toList b'.data.toList = true) (eb : b.toList.isEmpty = false) (ea : a.toList.isEmpty = false) (eb1 : b'.toList.isEmpty = true) (hl : decide (cmpV a.data.toList b.data.toList < 0) = false) (hs : spanB a.data.toList a'.data.toList = false) :
    Calls Try.prog 38 #[spv a a', spv b b'] w fun e w' => e = .returned (rd ⟨#[]⟩ ⟨#[]⟩ false) ∧ Below w.heap.size w w' := by
  have SA : Hid (Says 30 #[spv a a'] (.bool true)) := Lib.hid (by have h := rspanMay_any a a' za za'; rwa [sa] at h)
  have SB : Hid (Says 30 #[spv b b'] (.bool true)) := Lib.hid (by have h := rspanMay_any b b' zb zb'; rwa [sb] at h)
  have SX : Hid (Says 30 #[spv a a'] (.bool false)) := Lib.hid (by have h := rspanMay_any a a' za za'; rwa [hs] at h)
  have LO : Hid (Says 24 #[.string a, .string b] (.bool false)) := Lib.hid (fun w => by have h := less_any a b w za zb; rwa [hl] at h)
  have J := Lib.hid (MJ.start w a a' b b')
  clear sa sb hs za za' zb zb' hl
  go_enter Try.func38, Try.ntmps38
  go_wp2_with fail
  go_at_call 30; refine (SA.out _).mono ?_; rintro e w1 ⟨rfl, hb⟩; have J := Lib.hid (J.out.step hb); clear hb; obtain ⟨a0, a1, b0, b1, r0, r1, f0, f1⟩ := J.out.cells
  go_wp2_with fail
  go_at_call 30; refine (SB.out _).mono ?_; rintro e w2 ⟨rfl, hb⟩; clear a0 a1 b0 b1 r0 r1 f0 f1; have J := Lib.hid (J.out.step hb); clear hb; obtain ⟨a0, a1, b0, b1, r0, r1, f0, f1⟩ := J.out.cells
  have K := Lib.hid (MK.start J.out a a')
  obtain ⟨p0, p1, p2, p3, p4, p5, p6, p7⟩ := K.out.j.cells
  have lt0 := J.out.a.lt
  have lt1 := J.out.b.lt
  have lt2 := K.out.lt
  go_wp2_with fail
  go_at_call 24; refine (LO.out _).mono ?_; rintro e w3 ⟨rfl, hb⟩; clear a0 a1 b0 b1 r0 r1 f0 f1 p0 p1 p2 p3 p4 p5 p6 p7 lt0 lt1; have K := Lib.hid (K.out.step hb); clear hb; obtain ⟨a0, a1, b0, b1, r0, r1, f0, f1⟩ := K.out.j.cells; obtain ⟨k0, k1, g0, g1⟩ := K.out.cells
  go_wp2_with fail
  go_at_call 30; refine (SX.out _).mono ?_; rintro e w5 ⟨rfl, hb⟩; have K := Lib.hid (K.out.step hb); clear hb; obtain ⟨a0, a1, b0, b1, r0, r1, f0, f1⟩ := K.out.j.cells; obtain ⟨k0, k1, g0, g1⟩ := K.out.cells
  go_wp2_with fail
  exact bodyPost_ret (v := rd ⟨#[]⟩ ⟨#[]⟩ false) (by simp [results, Try.results38, go_sem, r0, r1, f0, f1]) rfl ⟨rfl, K.out.j.out _ _⟩

set_option maxHeartbeats 2000000 in
theorem rmeet_FAt (a a' b b' : ByteArray) (w : World) (za : a.size ≤ maxLen) (za' : a'.size ≤ maxLen) (zb : b.size ≤ maxLen) (zb' : b'.size ≤ maxLen) (sa : spanB a.data.toList a'.data.toList = true) (sb : spanB b.data.toList b'.data.toList = true) (eb : b.toList.isEmpty = false) (ea : a.toList.isEmpty = false) (eb1 : b'.toList.isEmpty = false) (ea1 : a'.toList.isEmpty = true) (hl : decide (cmpV a.data.toList b.data.toList < 0) = false) (hs : spanB a.data.toList b'.data.toList = true) :
    Calls Try.prog 38 #[spv a a', spv b b'] w fun e w' => e = .returned (rd a b' true) ∧ Below w.heap.size w w' := by
  have SA : Hid (Says 30 #[spv a a'] (.bool true)) := Lib.hid (by have h := rspanMay_any a a' za za'; rwa [sa] at h)
  have SB : Hid (Says 30 #[spv b b'] (.bool true)) := Lib.hid (by have h := rspanMay_any b b' zb zb'; rwa [sb] at h)
  have SX : Hid (Says 30 #[spv a b'] (.bool true)) := Lib.hid (by have h := rspanMay_any a b' za zb'; rwa [hs] at h)
  have LO : Hid (Says 24 #[.string a, .string b] (.bool false)) := Lib.hid (fun w => by have h := less_any a b w za zb; rwa [hl] at h)
  have J := Lib.hid (MJ.start w a a' b b')
  clear sa sb hs za za' zb zb' hl
  go_enter Try.func38, Try.ntmps38
  go_wp2_with fail
  go_at_call 30; refine (SA.out _).mono ?_; rintro e w1 ⟨rfl, hb⟩; have J := Lib.hid (J.out.step hb); clear hb; obtain ⟨a0, a1, b0, b1, r0, r1, f0, f1⟩ := J.out.cells
  go_wp2_with fail
  go_at_call 30; refine (SB.out _).mono ?_; rintro e w2 ⟨rfl, hb⟩; clear a0 a1 b0 b1 r0 r1 f0 f1; have J := Lib.hid (J.out.step hb); clear hb; obtain ⟨a0, a1, b0, b1, r0, r1, f0, f1⟩ := J.out.cells
  have K := Lib.hid (MK.start J.out a a')
  obtain ⟨p0, p1, p2, p3, p4, p5, p6, p7⟩ := K.out.j.cells
  have lt0 := J.out.a.lt
  have lt1 := J.out.b.lt
  have lt2 := K.out.lt
  go_wp2_with fail
  go_at_call 24; refine (LO.out _).mono ?_; rintro e w3 ⟨rfl, hb⟩; clear a0 a1 b0 b1 r0 r1 f0 f1 p0 p1 p2 p3 p4 p5 p6 p7 lt0 lt1; have K := Lib.hid (K.out.step hb); clear hb; obtain ⟨a0, a1, b0, b1, r0, r1, f0, f1⟩ := K.out.j.cells; obtain ⟨k0, k1, g0, g1⟩ := K.out.cells
  have K := Lib.hid (K.out.set1 b')
  obtain ⟨x0, x1, x2, x3, x4, x5, x6, x7⟩ := K.out.j.cells
  obtain ⟨y0, y1, y2, y3⟩ := K.out.cells
  go_wp2_with fail
  go_at_call 30; refine (SX.out _).mono ?_; rintro e w5 ⟨rfl, hb⟩; have K := Lib.hid (K.out.step hb); clear hb; obtain ⟨a0, a1, b0, b1, r0, r1, f0, f1⟩ := K.out.j.cells; obtain ⟨k0, k1, g0, g1⟩ := K.out.cells
  go_wp2_with fail
  exact bodyPost_ret (v := rd a b' true) (by simp [results, Try.results38, go_sem, r0, r1, f0, f1]) rfl ⟨rfl, K.out.j.out _ _⟩

set_option maxHeartbeats 2000000 in
theorem rmeet_FAf (a a' b b' : ByteArray) (w : World) (za : a.size ≤ maxLen) (za' : a'.size ≤ maxLen) (zb : b.size ≤ maxLen) (zb' : b'.size ≤ maxLen) (sa : spanB a.data.toList a'.data.toList = true) (sb : spanB b.data.toList b'.data.toList = true) (eb : b.toList.isEmpty = false) (ea : a.toList.isEmpty = false) (eb1 : b'.toList.isEmpty = false) (ea1 : a'.toList.isEmpty = true) (hl : decide (cmpV a.data.toList b.data.toList < 0) = false) (hs : spanB a.data.toList b'.data.toList = false) :
    Calls Try.prog 38 #[spv a a', spv b b'] w fun e w' => e = .returned (rd ⟨#[]⟩ ⟨#[]⟩ false) ∧ Below w.heap.size w w' := by
  have SA : Hid (Says 30 #[spv a a'] (.bool true)) := Lib.hid (by have h := rspanMay_any a a' za za'; rwa [sa] at h)
  have SB : Hid (Says 30 #[spv b b'] (.bool true)) := Lib.hid (by have h := rspanMay_any b b' zb zb'; rwa [sb] at h)
  have SX : Hid (Says 30 #[spv a b'] (.bool false)) := Lib.hid (by have h := rspanMay_any a b' za zb'; rwa [hs] at h)
  have LO : Hid (Says 24 #[.string a, .string b] (.bool false)) := Lib.hid (fun w => by have h := less_any a b w za zb; rwa [hl] at h)
  have J := Lib.hid (MJ.start w a a' b b')
  clear sa sb hs za za' zb zb' hl
  go_enter Try.func38, Try.ntmps38
  go_wp2_with fail
  go_at_call 30; refine (SA.out _).mono ?_; rintro e w1 ⟨rfl, hb⟩; have J := Lib.hid (J.out.step hb); clear hb; obtain ⟨a0, a1, b0, b1, r0, r1, f0, f1⟩ := J.out.cells
  go_wp2_with fail
  go_at_call 30; refine (SB.out _).mono ?_; rintro e w2 ⟨rfl, hb⟩; clear a0 a1 b0 b1 r0 r1 f0 f1; have J := Lib.hid (J.out.step hb); clear hb; obtain ⟨a0, a1, b0, b1, r0, r1, f0, f1⟩ := J.out.cells
  have K := Lib.hid (MK.start J.out a a')
  obtain ⟨p0, p1, p2, p3, p4, p5, p6, p7⟩ := K.out.j.cells
  have lt0 := J.out.a.lt
  have lt1 := J.out.b.lt
  have lt2 := K.out.lt
  go_wp2_with fail
  go_at_call 24; refine (LO.out _).mono ?_; rintro e w3 ⟨rfl, hb⟩; clear a0 a1 b0 b1 r0 r1 f0 f1 p0 p1 p2 p3 p4 p5 p6 p7 lt0 lt1; have K := Lib.hid (K.out.step hb); clear hb; obtain ⟨a0, a1, b0, b1, r0, r1, f0, f1⟩ := K.out.j.cells; obtain ⟨k0, k1, g0, g1⟩ := K.out.cells
  have K := Lib.hid (K.out.set1 b')
  obtain ⟨x0, x1, x2, x3, x4, x5, x6, x7⟩ := K.out.j.cells
  obtain ⟨y0, y1, y2, y3⟩ := K.out.cells
  go_wp2_with fail
  go_at_call 30; refine (SX.out _).mono ?_; rintro e w5 ⟨rfl, hb⟩; have K := Lib.hid (K.out.step hb); clear hb; obtain ⟨a0, a1, b0, b1, r0, r1, f0, f1⟩ := K.out.j.cells; obtain ⟨k0, k1, g0, g1⟩ := K.out.cells
  go_wp2_with fail
  exact bodyPost_ret (v := rd ⟨#[]⟩ ⟨#[]⟩ false) (by simp [results, Try.results38, go_sem, r0, r1, f0, f1]) rfl ⟨rfl, K.out.j.out _ _⟩

set_option maxHeartbeats 2000000 in
theorem rmeet_FFt (a a' b b' : ByteArray) (w : World) (za : a.size ≤ maxLen) (za' : a'.size ≤ maxLen) (zb : b.size ≤ maxLen) (zb' : b'.size ≤ maxLen) (sa : spanB a.data.toList a'.data.toList = true) (sb : spanB b.data.toList b'.data.toList = true) (eb : b.toList.isEmpty = false) (ea : a.toList.isEmpty = false) (eb1 : b'.toList.isEmpty = false) (ea1 : a'.toList.isEmpty = false) (hl : decide (cmpV a.data.toList b.data.toList < 0) = false) (hh : decide (cmpV b'.data.toList a'.data.toList < 0) = false) (hs : spanB a.data.toList a'.data.toList = true) :
    Calls Try.prog 38 #[spv a a', spv b b'] w fun e w' => e = .returned (rd a a' true) ∧ Below w.heap.size w w' := by
  have SA : Hid (Says 30 #[spv a a'] (.bool true)) := Lib.hid (by have h := rspanMay_any a a' za za'; rwa [sa] at h)
  have SB : Hid (Says 30 #[spv b b'] (.bool true)) := Lib.hid (by have h := rspanMay_any b b' zb zb'; rwa [sb] at h)
  have SX : Hid (Says 30 #[spv a a'] (.bool true)) := Lib.hid (by have h := rspanMay_any a a' za za'; rwa [hs] at h)
  have LO : Hid (Says 24 #[.string a, .string b] (.bool false)) := Lib.hid (fun w => by have h := less_any a b w za zb; rwa [hl] at h)
  have HI : Hid (Says 24 #[.string b', .string a'] (.bool false)) := Lib.hid (fun w => by have h := less_any b' a' w zb' za'; rwa [hh] at h)
  have J := Lib.hid (MJ.start w a a' b b')
  clear sa sb hs za za' zb zb' hl hh
  go_enter Try.func38, Try.ntmps38
  go_wp2_with fail
  go_at_call 30; refine (SA.out _).mono ?_; rintro e w1 ⟨rfl, hb⟩; have J := Lib.hid (J.out.step hb); clear hb; obtain ⟨a0, a1, b0, b1, r0, r1, f0, f1⟩ := J.out.cells
  go_wp2_with fail
  go_at_call 30; refine (SB.out _).mono ?_; rintro e w2 ⟨rfl, hb⟩; clear a0 a1 b0 b1 r0 r1 f0 f1; have J := Lib.hid (J.out.step hb); clear hb; obtain ⟨a0, a1, b0, b1, r0, r1, f0, f1⟩ := J.out.cells
  have K := Lib.hid (MK.start J.out a a')
  obtain ⟨p0, p1, p2, p3, p4, p5, p6, p7⟩ := K.out.j.cells
  have lt0 := J.out.a.lt
  have lt1 := J.out.b.lt
  have lt2 := K.out.lt
  go_wp2_with fail
  go_at_call 24; refine (LO.out _).mono ?_; rintro e w3 ⟨rfl, hb⟩; clear a0 a1 b0 b1 r0 r1 f0 f1 p0 p1 p2 p3 p4 p5 p6 p7 lt0 lt1; have K := Lib.hid (K.out.step hb); clear hb; obtain ⟨a0, a1, b0, b1, r0, r1, f0, f1⟩ := K.out.j.cells; obtain ⟨k0, k1, g0, g1⟩ := K.out.cells
  go_wp2_with fail
  go_at_call 24; refine (HI.out _).mono ?_; rintro e w4 ⟨rfl, hb⟩; have K := Lib.hid (K.out.step hb); clear hb; obtain ⟨a0, a1, b0, b1, r0, r1, f0, f1⟩ := K.out.j.cells; obtain ⟨k0, k1, g0, g1⟩ := K.out.cells
  go_wp2_with fail
  go_at_call 30; refine (SX.out _).mono ?_; rintro e w5 ⟨rfl, hb⟩; have K := Lib.hid (K.out.step hb); clear hb; obtain ⟨a0, a1, b0, b1, r0, r1, f0, f1⟩ := K.out.j.cells; obtain ⟨k0, k1, g0, g1⟩ := K.out.cells
  go_wp2_with fail
  exact bodyPost_ret (v := rd a a' true) (by simp [results, Try.results38, go_sem, r0, r1, f0, f1]) rfl ⟨rfl, K.out.j.out _ _⟩

set_option maxHeartbeats 2000000 in
theorem rmeet_FFf (a a' b b' : ByteArray) (w : World) (za : a.size ≤ maxLen) (za' : a'.size ≤ maxLen) (zb : b.size ≤ maxLen) (zb' : b'.size ≤ maxLen) (sa : spanB a.data.toList a'.data.toList = true) (sb : spanB b.data.toList b'.data.toList = true) (eb : b.toList.isEmpty = false) (ea : a.toList.isEmpty = false) (eb1 : b'.toList.isEmpty = false) (ea1 : a'.toList.isEmpty = false) (hl : decide (cmpV a.data.toList b.data.toList < 0) = false) (hh : decide (cmpV b'.data.toList a'.data.toList < 0) = false) (hs : spanB a.data.toList a'.data.toList = false) :
    Calls Try.prog 38 #[spv a a', spv b b'] w fun e w' => e = .returned (rd ⟨#[]⟩ ⟨#[]⟩ false) ∧ Below w.heap.size w w' := by
  have SA : Hid (Says 30 #[spv a a'] (.bool true)) := Lib.hid (by have h := rspanMay_any a a' za za'; rwa [sa] at h)
  have SB : Hid (Says 30 #[spv b b'] (.bool true)) := Lib.hid (by have h := rspanMay_any b b' zb zb'; rwa [sb] at h)
  have SX : Hid (Says 30 #[spv a a'] (.bool false)) := Lib.hid (by have h := rspanMay_any a a' za za'; rwa [hs] at h)
  have LO : Hid (Says 24 #[.string a, .string b] (.bool false)) := Lib.hid (fun w => by have h := less_any a b w za zb; rwa [hl] at h)
  have HI : Hid (Says 24 #[.string b', .string a'] (.bool false)) := Lib.hid (fun w => by have h := less_any b' a' w zb' za'; rwa [hh] at h)
  have J := Lib.hid (MJ.start w a a' b b')
  clear sa sb hs za za' zb zb' hl hh
  go_enter Try.func38, Try.ntmps38
  go_wp2_with fail
  go_at_call 30; refine (SA.out _).mono ?_; rintro e w1 ⟨rfl, hb⟩; have J := Lib.hid (J.out.step hb); clear hb; obtain ⟨a0, a1, b0, b1, r0, r1, f0, f1⟩ := J.out.cells
  go_wp2_with fail
  go_at_call 30; refine (SB.out _).mono ?_; rintro e w2 ⟨rfl, hb⟩; clear a0 a1 b0 b1 r0 r1 f0 f1; have J := Lib.hid (J.out.step hb); clear hb; obtain ⟨a0, a1, b0, b1, r0, r1, f0, f1⟩ := J.out.cells
  have K := Lib.hid (MK.start J.out a a')
  obtain ⟨p0, p1, p2, p3, p4, p5, p6, p7⟩ := K.out.j.cells
  have lt0 := J.out.a.lt
  have lt1 := J.out.b.lt
  have lt2 := K.out.lt
  go_wp2_with fail
  go_at_call 24; refine (LO.out _).mono ?_; rintro e w3 ⟨rfl, hb⟩; clear a0 a1 b0 b1 r0 r1 f0 f1 p0 p1 p2 p3 p4 p5 p6 p7 lt0 lt1; have K := Lib.hid (K.out.step hb); clear hb; obtain ⟨a0, a1, b0, b1, r0, r1, f0, f1⟩ := K.out.j.cells; obtain ⟨k0, k1, g0, g1⟩ := K.out.cells
  go_wp2_with fail
  go_at_call 24; refine (HI.out _).mono ?_; rintro e w4 ⟨rfl, hb⟩; have K := Lib.hid (K.out.step hb); clear hb; obtain ⟨a0, a1, b0, b1, r0, r1, f0, f1⟩ := K.out.j.cells; obtain ⟨k0, k1, g0, g1⟩ := K.out.cells
  go_wp2_with fail
  go_at_call 30; refine (SX.out _).mono ?_; rintro e w5 ⟨rfl, hb⟩; have K := Lib.hid (K.out.step hb); clear hb; obtain ⟨a0, a1, b0, b1, r0, r1, f0, f1⟩ := K.out.j.cells; obtain ⟨k0, k1, g0, g1⟩ := K.out.cells
  go_wp2_with fail
  exact bodyPost_ret (v := rd ⟨#[]⟩ ⟨#[]⟩ false) (by simp [results, Try.results38, go_sem, r0, r1, f0, f1]) rfl ⟨rfl, K.out.j.out _ _⟩

set_option maxHeartbeats 2000000 in
theorem rmeet_FTt (a a' b b' : ByteArray) (w : World) (za : a.size ≤ maxLen) (za' : a'.size ≤ maxLen) (zb : b.size ≤ maxLen) (zb' : b'.size ≤ maxLen) (sa : spanB a.data.toList a'.data.toList = true) (sb : spanB b.data.toList b'.data.toList = true) (eb : b.toList.isEmpty = false) (ea : a.toList.isEmpty = false) (eb1 : b'.toList.isEmpty = false) (ea1 : a'.toList.isEmpty = false) (hl : decide (cmpV a.data.toList b.data.toList < 0) = false) (hh : decide (cmpV b'.data.toList a'.data.toList < 0) = true) (hs : spanB a.data.toList b'.data.toList = true) :
    Calls Try.prog 38 #[spv a a', spv b b'] w fun e w' => e = .returned (rd a b' true) ∧ Below w.heap.size w w' := by
  have SA : Hid (Says 30 #[spv a a'] (.bool true)) := Lib.hid (by have h := rspanMay_any a a' za za'; rwa [sa] at h)
  have SB : Hid (Says 30 #[spv b b'] (.bool true)) := Lib.hid (by have h := rspanMay_any b b' zb zb'; rwa [sb] at h)
  have SX : Hid (Says 30 #[spv a b'] (.bool true)) := Lib.hid (by have h := rspanMay_any a b' za zb'; rwa [hs] at h)
  have LO : Hid (Says 24 #[.string a, .string b] (.bool false)) := Lib.hid (fun w => by have h := less_any a b w za zb; rwa [hl] at h)
  have HI : Hid (Says 24 #[.string b', .string a'] (.bool true)) := Lib.hid (fun w => by have h := less_any b' a' w zb' za'; rwa [hh] at h)
  have J := Lib.hid (MJ.start w a a' b b')
  clear sa sb hs za za' zb zb' hl hh
  go_enter Try.func38, Try.ntmps38
  go_wp2_with fail
  go_at_call 30; refine (SA.out _).mono ?_; rintro e w1 ⟨rfl, hb⟩; have J := Lib.hid (J.out.step hb); clear hb; obtain ⟨a0, a1, b0, b1, r0, r1, f0, f1⟩ := J.out.cells
  go_wp2_with fail
  go_at_call 30; refine (SB.out _).mono ?_; rintro e w2 ⟨rfl, hb⟩; clear a0 a1 b0 b1 r0 r1 f0 f1; have J := Lib.hid (J.out.step hb); clear hb; obtain ⟨a0, a1, b0, b1, r0, r1, f0, f1⟩ := J.out.cells
  have K := Lib.hid (MK.start J.out a a')
  obtain ⟨p0, p1, p2, p3, p4, p5, p6, p7⟩ := K.out.j.cells
  have lt0 := J.out.a.lt
  have lt1 := J.out.b.lt
  have lt2 := K.out.lt
  go_wp2_with fail
  go_at_call 24; refine (LO.out _).mono ?_; rintro e w3 ⟨rfl, hb⟩; clear a0 a1 b0 b1 r0 r1 f0 f1 p0 p1 p2 p3 p4 p5 p6 p7 lt0 lt1; have K := Lib.hid (K.out.step hb); clear hb; obtain ⟨a0, a1, b0, b1, r0, r1, f0, f1⟩ := K.out.j.cells; obtain ⟨k0, k1, g0, g1⟩ := K.out.cells
  go_wp2_with fail
  go_at_call 24; refine (HI.out _).mono ?_; rintro e w4 ⟨rfl, hb⟩; have K := Lib.hid (K.out.step hb); clear hb; obtain ⟨a0, a1, b0, b1, r0, r1, f0, f1⟩ := K.out.j.cells; obtain ⟨k0, k1, g0, g1⟩ := K.out.cells
  have K := Lib.hid (K.out.set1 b')
  obtain ⟨x0, x1, x2, x3, x4, x5, x6, x7⟩ := K.out.j.cells
  obtain ⟨y0, y1, y2, y3⟩ := K.out.cells
  go_wp2_with fail
  go_at_call 30; refine (SX.out _).mono ?_; rintro e w5 ⟨rfl, hb⟩; have K := Lib.hid (K.out.step hb); clear hb; obtain ⟨a0, a1, b0, b1, r0, r1, f0, f1⟩ := K.out.j.cells; obtain ⟨k0, k1, g0, g1⟩ := K.out.cells
  go_wp2_with fail
  exact bodyPost_ret (v := rd a b' true) (by simp [results, Try.results38, go_sem, r0, r1, f0, f1]) rfl ⟨rfl, K.out.j.out _ _⟩

set_option maxHeartbeats 2000000 in
theorem rmeet_FTf (a a' b b' : ByteArray) (w : World) (za : a.size ≤ maxLen) (za' : a'.size ≤ maxLen) (zb : b.size ≤ maxLen) (zb' : b'.size ≤ maxLen) (sa : spanB a.data.toList a'.data.toList = true) (sb : spanB b.data.toList b'.data.toList = true) (eb : b.toList.isEmpty = false) (ea : a.toList.isEmpty = false) (eb1 : b'.toList.isEmpty = false) (ea1 : a'.toList.isEmpty = false) (hl : decide (cmpV a.data.toList b.data.toList < 0) = false) (hh : decide (cmpV b'.data.toList a'.data.toList < 0) = true) (hs : spanB a.data.toList b'.data.toList = false) :
    Calls Try.prog 38 #[spv a a', spv b b'] w fun e w' => e = .returned (rd ⟨#[]⟩ ⟨#[]⟩ false) ∧ Below w.heap.size w w' := by
  have SA : Hid (Says 30 #[spv a a'] (.bool true)) := Lib.hid (by have h := rspanMay_any a a' za za'; rwa [sa] at h)
  have SB : Hid (Says 30 #[spv b b'] (.bool true)) := Lib.hid (by have h := rspanMay_any b b' zb zb'; rwa [sb] at h)
  have SX : Hid (Says 30 #[spv a b'] (.bool false)) := Lib.hid (by have h := rspanMay_any a b' za zb'; rwa [hs] at h)
  have LO : Hid (Says 24 #[.string a, .string b] (.bool false)) := Lib.hid (fun w => by have h := less_any a b w za zb; rwa [hl] at h)
  have HI : Hid (Says 24 #[.string b', .string a'] (.bool true)) := Lib.hid (fun w => by have h := less_any b' a' w zb' za'; rwa [hh] at h)
  have J := Lib.hid (MJ.start w a a' b b')
  clear sa sb hs za za' zb zb' hl hh
  go_enter Try.func38, Try.ntmps38
  go_wp2_with fail
  go_at_call 30; refine (SA.out _).mono ?_; rintro e w1 ⟨rfl, hb⟩; have J := Lib.hid (J.out.step hb); clear hb; obtain ⟨a0, a1, b0, b1, r0, r1, f0, f1⟩ := J.out.cells
  go_wp2_with fail
  go_at_call 30; refine (SB.out _).mono ?_; rintro e w2 ⟨rfl, hb⟩; clear a0 a1 b0 b1 r0 r1 f0 f1; have J := Lib.hid (J.out.step hb); clear hb; obtain ⟨a0, a1, b0, b1, r0, r1, f0, f1⟩ := J.out.cells
  have K := Lib.hid (MK.start J.out a a')
  obtain ⟨p0, p1, p2, p3, p4, p5, p6, p7⟩ := K.out.j.cells
  have lt0 := J.out.a.lt
  have lt1 := J.out.b.lt
  have lt2 := K.out.lt
  go_wp2_with fail
  go_at_call 24; refine (LO.out _).mono ?_; rintro e w3 ⟨rfl, hb⟩; clear a0 a1 b0 b1 r0 r1 f0 f1 p0 p1 p2 p3 p4 p5 p6 p7 lt0 lt1; have K := Lib.hid (K.out.step hb); clear hb; obtain ⟨a0, a1, b0, b1, r0, r1, f0, f1⟩ := K.out.j.cells; obtain ⟨k0, k1, g0, g1⟩ := K.out.cells
  go_wp2_with fail
  go_at_call 24; refine (HI.out _).mono ?_; rintro e w4 ⟨rfl, hb⟩; have K := Lib.hid (K.out.step hb); clear hb; obtain ⟨a0, a1, b0, b1, r0, r1, f0, f1⟩ := K.out.j.cells; obtain ⟨k0, k1, g0, g1⟩ := K.out.cells
  have K := Lib.hid (K.out.set1 b')
  obtain ⟨x0, x1, x2, x3, x4, x5, x6, x7⟩ := K.out.j.cells
  obtain ⟨y0, y1, y2, y3⟩ := K.out.cells
  go_wp2_with fail
  go_at_call 30; refine (SX.out _).mono ?_; rintro e w5 ⟨rfl, hb⟩; have K := Lib.hid (K.out.step hb); clear hb; obtain ⟨a0, a1, b0, b1, r0, r1, f0, f1⟩ := K.out.j.cells; obtain ⟨k0, k1, g0, g1⟩ := K.out.cells
  go_wp2_with fail
  exact bodyPost_ret (v := rd ⟨#[]⟩ ⟨#[]⟩ false) (by simp [results, Try.results38, go_sem, r0, r1, f0, f1]) rfl ⟨rfl, K.out.j.out _ _⟩

set_option maxHeartbeats 2000000 in
theorem rmeet_TEt (a a' b b' : ByteArray) (w : World) (za : a.size ≤ maxLen) (za' : a'.size ≤ maxLen) (zb : b.size ≤ maxLen) (zb' : b'.size ≤ maxLen) (sa : spanB a.data.toList a'.data.toList = true) (sb : spanB b.data.toList b'.data.toList = true) (eb : b.toList.isEmpty = false) (ea : a.toList.isEmpty = false) (eb1 : b'.toList.isEmpty = true) (hl : decide (cmpV a.data.toList b.data.toList < 0) = true) (hs : spanB b.data.toList a'.data.toList = true) :
    Calls Try.prog 38 #[spv a a', spv b b'] w fun e w' => e = .returned (rd b a' true) ∧ Below w.heap.size w w' := by
  have SA : Hid (Says 30 #[spv a a'] (.bool true)) := Lib.hid (by have h := rspanMay_any a a' za za'; rwa [sa] at h)
  have SB : Hid (Says 30 #[spv b b'] (.bool true)) := Lib.hid (by have h := rspanMay_any b b' zb zb'; rwa [sb] at h)
  have SX : Hid (Says 30 #[spv b a'] (.bool true)) := Lib.hid (by have h := rspanMay_any b a' zb za'; rwa [hs] at h)
  have LO : Hid (Says 24 #[.string a, .string b] (.bool true)) := Lib.hid (fun w => by have h := less_any a b w za zb; rwa [hl] at h)
  have J := Lib.hid (MJ.start w a a' b b')
  clear sa sb hs za za' zb zb' hl
  go_enter Try.func38, Try.ntmps38
  go_wp2_with fail
  go_at_call 30; refine (SA.out _).mono ?_; rintro e w1 ⟨rfl, hb⟩; have J := Lib.hid (J.out.step hb); clear hb; obtain ⟨a0, a1, b0, b1, r0, r1, f0, f1⟩ := J.out.cells
  go_wp2_with fail
  go_at_call 30; refine (SB.out _).mono ?_; rintro e w2 ⟨rfl, hb⟩; clear a0 a1 b0 b1 r0 r1 f0 f1; have J := Lib.hid (J.out.step hb); clear hb; obtain ⟨a0, a1, b0, b1, r0, r1, f0, f1⟩ := J.out.cells
  have K := Lib.hid (MK.start J.out a a')
  obtain ⟨p0, p1, p2, p3, p4, p5, p6, p7⟩ := K.out.j.cells
  have lt0 := J.out.a.lt
  have lt1 := J.out.b.lt
  have lt2 := K.out.lt
  go_wp2_with fail
  go_at_call 24; refine (LO.out _).mono ?_; rintro e w3 ⟨rfl, hb⟩; clear a0 a1 b0 b1 r0 r1 f0 f1 p0 p1 p2 p3 p4 p5 p6 p7 lt0 lt1; have K := Lib.hid (K.out.step hb); clear hb; obtain ⟨a0, a1, b0, b1, r0, r1, f0, f1⟩ := K.out.j.cells; obtain ⟨k0, k1, g0, g1⟩ := K.out.cells
  have K := Lib.hid (K.out.set0 b)
  obtain ⟨q0, q1, q2, q3, q4, q5, q6, q7⟩ := K.out.j.cells
  obtain ⟨m0, m1, m2, m3⟩ := K.out.cells
  go_wp2_with fail
  go_at_call 30; refine (SX.out _).mono ?_; rintro e w5 ⟨rfl, hb⟩; have K := Lib.hid (K.out.step hb); clear hb; obtain ⟨a0, a1, b0, b1, r0, r1, f0, f1⟩ := K.out.j.cells; obtain ⟨k0, k1, g0, g1⟩ := K.out.cells
  go_wp2_with fail
  exact bodyPost_ret (v := rd b a' true) (by simp [results, Try.results38, go_sem, r0, r1, f0, f1]) rfl ⟨rfl, K.out.j.out _ _⟩

set_option maxHeartbeats 2000000 in
theorem rmeet_TEf (a a' b b' : ByteArray) (w : World) (za : a.size ≤ maxLen) (za' : a'.size ≤ maxLen) (zb : b.size ≤ maxLen) (zb' : b'.size ≤ maxLen) (sa : spanB a.data.toList a'.data.toList = true) (sb : spanB b.data.toList b'.data.toList = true) (eb : b.toList.isEmpty = false) (ea : a.toList.isEmpty = false) (eb1 : b'.toList.isEmpty = true) (hl : decide (cmpV a.data.toList b.data.toList < 0) = true) (hs : spanB b.data.toList a'.data.toList = false) :
    Calls Try.prog 38 #[spv a a', spv b b'] w fun e w' => e = .returned (rd ⟨#[]⟩ ⟨#[]⟩ false) ∧ Below w.heap.size w w' := by
  have SA : Hid (Says 30 #[spv a a'] (.bool true)) := Lib.hid (by have h := rspanMay_any a a' za za'; rwa [sa] at h)
  have SB : Hid (Says 30 #[spv b b'] (.bool true)) := Lib.hid (by have h := rspanMay_any b b' zb zb'; rwa [sb] at h)
  have SX : Hid (Says 30 #[spv b a'] (.bool false)) := Lib.hid (by have h := rspanMay_any b a' zb za'; rwa [hs] at h)
  have LO : Hid (Says 24 #[.string a, .string b] (.bool true)) := Lib.hid (fun w => by have h := less_any a b w za zb; rwa [hl] at h)
  have J := Lib.hid (MJ.start w a a' b b')
  clear sa sb hs za za' zb zb' hl
  go_enter Try.func38, Try.ntmps38
  go_wp2_with fail
  go_at_call 30; refine (SA.out _).mono ?_; rintro e w1 ⟨rfl, hb⟩; have J := Lib.hid (J.out.step hb); clear hb; obtain ⟨a0, a1, b0, b1, r0, r1, f0, f1⟩ := J.out.cells
  go_wp2_with fail
  go_at_call 30; refine (SB.out _).mono ?_; rintro e w2 ⟨rfl, hb⟩; clear a0 a1 b0 b1 r0 r1 f0 f1; have J := Lib.hid (J.out.step hb); clear hb; obtain ⟨a0, a1, b0, b1, r0, r1, f0, f1⟩ := J.out.cells
  have K := Lib.hid (MK.start J.out a a')
  obtain ⟨p0, p1, p2, p3, p4, p5, p6, p7⟩ := K.out.j.cells
  have lt0 := J.out.a.lt
  have lt1 := J.out.b.lt
  have lt2 := K.out.lt
  go_wp2_with fail
  go_at_call 24; refine (LO.out _).mono ?_; rintro e w3 ⟨rfl, hb⟩; clear a0 a1 b0 b1 r0 r1 f0 f1 p0 p1 p2 p3 p4 p5 p6 p7 lt0 lt1; have K := Lib.hid (K.out.step hb); clear hb; obtain ⟨a0, a1, b0, b1, r0, r1, f0, f1⟩ := K.out.j.cells; obtain ⟨k0, k1, g0, g1⟩ := K.out.cells
  have K := Lib.hid (K.out.set0 b)
  obtain ⟨q0, q1, q2, q3, q4, q5, q6, q7⟩ := K.out.j.cells
  obtain ⟨m0, m1, m2, m3⟩ := K.out.cells
  go_wp2_with fail
  go_at_call 30; refine (SX.out _).mono ?_; rintro e w5 ⟨rfl, hb⟩; have K := Lib.hid (K.out.step hb); clear hb; obtain ⟨a0, a1, b0, b1, r0, r1, f0, f1⟩ := K.out.j.cells; obtain ⟨k0, k1, g0, g1⟩ := K.out.cells
  go_wp2_with fail
  exact bodyPost_ret (v := rd ⟨#[]⟩ ⟨#[]⟩ false) (by simp [results, Try.results38, go_sem, r0, r1, f0, f1]) rfl ⟨rfl, K.out.j.out _ _⟩

set_option maxHeartbeats 2000000 in
theorem rmeet_TAt (a a' b b' : ByteArray) (w : World) (za : a.size ≤ maxLen) (za' : a'.size ≤ maxLen) (zb : b.size ≤ maxLen) (zb' : b'.size ≤ maxLen) (sa : spanB a.data.toList a'.data.toList = true) (sb : spanB b.data.toList b'.data.toList = true) (eb : b.toList.isEmpty = false) (ea : a.toList.isEmpty = false) (eb1 : b'.toList.isEmpty = false) (ea1 : a'.toList.isEmpty = true) (hl : decide (cmpV a.data.toList b.data.toList < 0) = true) (hs : spanB b.data.toList b'.data.toList = true) :
    Calls Try.prog 38 #[spv a a', spv b b'] w fun e w' => e = .returned (rd b b' true) ∧ Below w.heap.size w w' := by
  have SA : Hid (Says 30 #[spv a a'] (.bool true)) := Lib.hid (by have h := rspanMay_any a a' za za'; rwa [sa] at h)
  have SB : Hid (Says 30 #[spv b b'] (.bool true)) := Lib.hid (by have h := rspanMay_any b b' zb zb'; rwa [sb] at h)
  have SX : Hid (Says 30 #[spv b b'] (.bool true)) := Lib.hid (by have h := rspanMay_any b b' zb zb'; rwa [hs] at h)
  have LO : Hid (Says 24 #[.string a, .string b] (.bool true)) := Lib.hid (fun w => by have h := less_any a b w za zb; rwa [hl] at h)
  have J := Lib.hid (MJ.start w a a' b b')
  clear sa sb hs za za' zb zb' hl
  go_enter Try.func38, Try.ntmps38
  go_wp2_with fail
  go_at_call 30; refine (SA.out _).mono ?_; rintro e w1 ⟨rfl, hb⟩; have J := Lib.hid (J.out.step hb); clear hb; obtain ⟨a0, a1, b0, b1, r0, r1, f0, f1⟩ := J.out.cells
  go_wp2_with fail
  go_at_call 30; refine (SB.out _).mono ?_; rintro e w2 ⟨rfl, hb⟩; clear a0 a1 b0 b1 r0 r1 f0 f1; have J := Lib.hid (J.out.step hb); clear hb; obtain ⟨a0, a1, b0, b1, r0, r1, f0, f1⟩ := J.out.cells
  have K := Lib.hid (MK.start J.out a a')
  obtain ⟨p0, p1, p2, p3, p4, p5, p6, p7⟩ := K.out.j.cells
  have lt0 := J.out.a.lt
  have lt1 := J.out.b.lt
  have lt2 := K.out.lt
  go_wp2_with fail
  go_at_call 24; refine (LO.out _).mono ?_; rintro e w3 ⟨rfl, hb⟩; clear a0 a1 b0 b1 r0 r1 f0 f1 p0 p1 p2 p3 p4 p5 p6 p7 lt0 lt1; have K := Lib.hid (K.out.step hb); clear hb; obtain ⟨a0, a1, b0, b1, r0, r1, f0, f1⟩ := K.out.j.cells; obtain ⟨k0, k1, g0, g1⟩ := K.out.cells
  have K := Lib.hid (K.out.set0 b)
  obtain ⟨q0, q1, q2, q3, q4, q5, q6, q7⟩ := K.out.j.cells
  obtain ⟨m0, m1, m2, m3⟩ := K.out.cells
  have K := Lib.hid (K.out.set1 b')
  obtain ⟨x0, x1, x2, x3, x4, x5, x6, x7⟩ := K.out.j.cells
  obtain ⟨y0, y1, y2, y3⟩ := K.out.cells
  go_wp2_with fail
  go_at_call 30; refine (SX.out _).mono ?_; rintro e w5 ⟨rfl, hb⟩; have K := Lib.hid (K.out.step hb); clear hb; obtain ⟨a0, a1, b0, b1, r0, r1, f0, f1⟩ := K.out.j.cells; obtain ⟨k0, k1, g0, g1⟩ := K.out.cells
  go_wp2_with fail
  exact bodyPost_ret (v := rd b b' true) (by simp [results, Try.results38, go_sem, r0, r1, f0, f1]) rfl ⟨rfl, K.out.j.out _ _⟩

set_option maxHeartbeats 2000000 in
theorem rmeet_TAf (a a' b b' : ByteArray) (w : World) (za : a.size ≤ maxLen) (za' : a'.size ≤ maxLen) (zb : b.size ≤ maxLen) (zb' : b'.size ≤ maxLen) (sa : spanB a.data.toList a'.data.toList = true) (sb : spanB b.data.toList b'.data.toList = true) (eb : b.toList.isEmpty = false) (ea : a.toList.isEmpty = false) (eb1 : b'.toList.isEmpty = false) (ea1 : a'.toList.isEmpty = true) (hl : decide (cmpV a.data.toList b.data.toList < 0) = true) (hs : spanB b.data.toList b'.data.toList = false) :
    Calls Try.prog 38 #[spv a a', spv b b'] w fun e w' => e = .returned (rd ⟨#[]⟩ ⟨#[]⟩ false) ∧ Below w.heap.size w w' := by
  have SA : Hid (Says 30 #[spv a a'] (.bool true)) := Lib.hid (by have h := rspanMay_any a a' za za'; rwa [sa] at h)
  have SB : Hid (Says 30 #[spv b b'] (.bool true)) := Lib.hid (by have h := rspanMay_any b b' zb zb'; rwa [sb] at h)
  have SX : Hid (Says 30 #[spv b b'] (.bool false)) := Lib.hid (by have h := rspanMay_any b b' zb zb'; rwa [hs] at h)
  have LO : Hid (Says 24 #[.string a, .string b] (.bool true)) := Lib.hid (fun w => by have h := less_any a b w za zb; rwa [hl] at h)
  have J := Lib.hid (MJ.start w a a' b b')
  clear sa sb hs za za' zb zb' hl
  go_enter Try.func38, Try.ntmps38
  go_wp2_with fail
  go_at_call 30; refine (SA.out _).mono ?_; rintro e w1 ⟨rfl, hb⟩; have J := Lib.hid (J.out.step hb); clear hb; obtain ⟨a0, a1, b0, b1, r0, r1, f0, f1⟩ := J.out.cells
  go_wp2_with fail
  go_at_call 30; refine (SB.out _).mono ?_; rintro e w2 ⟨rfl, hb⟩; clear a0 a1 b0 b1 r0 r1 f0 f1; have J := Lib.hid (J.out.step hb); clear hb; obtain ⟨a0, a1, b0, b1, r0, r1, f0, f1⟩ := J.out.cells
  have K := Lib.hid (MK.start J.out a a')
  obtain ⟨p0, p1, p2, p3, p4, p5, p6, p7⟩ := K.out.j.cells
  have lt0 := J.out.a.lt
  have lt1 := J.out.b.lt
  have lt2 := K.out.lt
  go_wp2_with fail
  go_at_call 24; refine (LO.out _).mono ?_; rintro e w3 ⟨rfl, hb⟩; clear a0 a1 b0 b1 r0 r1 f0 f1 p0 p1 p2 p3 p4 p5 p6 p7 lt0 lt1; have K := Lib.hid (K.out.step hb); clear hb; obtain ⟨a0, a1, b0, b1, r0, r1, f0, f1⟩ := K.out.j.cells; obtain ⟨k0, k1, g0, g1⟩ := K.out.cells
  have K := Lib.hid (K.out.set0 b)
  obtain ⟨q0, q1, q2, q3, q4, q5, q6, q7⟩ := K.out.j.cells
  obtain ⟨m0, m1, m2, m3⟩ := K.out.cells
  have K := Lib.hid (K.out.set1 b')
  obtain ⟨x0, x1, x2, x3, x4, x5, x6, x7⟩ := K.out.j.cells
  obtain ⟨y0, y1, y2, y3⟩ := K.out.cells
  go_wp2_with fail
  go_at_call 30; refine (SX.out _).mono ?_; rintro e w5 ⟨rfl, hb⟩; have K := Lib.hid (K.out.step hb); clear hb; obtain ⟨a0, a1, b0, b1, r0, r1, f0, f1⟩ := K.out.j.cells; obtain ⟨k0, k1, g0, g1⟩ := K.out.cells
  go_wp2_with fail
  exact bodyPost_ret (v := rd ⟨#[]⟩ ⟨#[]⟩ false) (by simp [results, Try.results38, go_sem, r0, r1, f0, f1]) rfl ⟨rfl, K.out.j.out _ _⟩

set_option maxHeartbeats 2000000 in
theorem rmeet_TFt (a a' b b' : ByteArray) (w : World) (za : a.size ≤ maxLen) (za' : a'.size ≤ maxLen) (zb : b.size ≤ maxLen) (zb' : b'.size ≤ maxLen) (sa : spanB a.data.toList a'.data.toList = true) (sb : spanB b.data.toList b'.data.toList = true) (eb : b.toList.isEmpty = false) (ea : a.toList.isEmpty = false) (eb1 : b'.toList.isEmpty = false) (ea1 : a'.toList.isEmpty = false) (hl : decide (cmpV a.data.toList b.data.toList < 0) = true) (hh : decide (cmpV b'.data.toList a'.data.toList < 0) = false) (hs : spanB b.data.toList a'.data.toList = true) :
    Calls Try.prog 38 #[spv a a', spv b b'] w fun e w' => e = .returned (rd b a' true) ∧ Below w.heap.size w w' := by
  have SA : Hid (Says 30 #[spv a a'] (.bool true)) := Lib.hid (by have h := rspanMay_any a a' za za'; rwa [sa] at h)
  have SB : Hid (Says 30 #[spv b b'] (.bool true)) := Lib.hid (by have h := rspanMay_any b b' zb zb'; rwa [sb] at h)
  have SX : Hid (Says 30 #[spv b a'] (.bool true)) := Lib.hid (by have h := rspanMay_any b a' zb za'; rwa [hs] at h)
  have LO : Hid (Says 24 #[.string a, .string b] (.bool true)) := Lib.hid (fun w => by have h := less_any a b w za zb; rwa [hl] at h)
  have HI : Hid (Says 24 #[.string b', .string a'] (.bool false)) := Lib.hid (fun w => by have h := less_any b' a' w zb' za'; rwa [hh] at h)
  have J := Lib.hid (MJ.start w a a' b b')
  clear sa sb hs za za' zb zb' hl hh
  go_enter Try.func38, Try.ntmps38
  go_wp2_with fail
  go_at_call 30; refine (SA.out _).mono ?_; rintro e w1 ⟨rfl, hb⟩; have J := Lib.hid (J.out.step hb); clear hb; obtain ⟨a0, a1, b0, b1, r0, r1, f0, f1⟩ := J.out.cells
  go_wp2_with fail
  go_at_call 30; refine (SB.out _).mono ?_; rintro e w2 ⟨rfl, hb⟩; clear a0 a1 b0 b1 r0 r1 f0 f1; have J := Lib.hid (J.out.step hb); clear hb; obtain ⟨a0, a1, b0, b1, r0, r1, f0, f1⟩ := J.out.cells
  have K := Lib.hid (MK.start J.out a a')
  obtain ⟨p0, p1, p2, p3, p4, p5, p6, p7⟩ := K.out.j.cells
  have lt0 := J.out.a.lt
  have lt1 := J.out.b.lt
  have lt2 := K.out.lt
  go_wp2_with fail
  go_at_call 24; refine (LO.out _).mono ?_; rintro e w3 ⟨rfl, hb⟩; clear a0 a1 b0 b1 r0 r1 f0 f1 p0 p1 p2 p3 p4 p5 p6 p7 lt0 lt1; have K := Lib.hid (K.out.step hb); clear hb; obtain ⟨a0, a1, b0, b1, r0, r1, f0, f1⟩ := K.out.j.cells; obtain ⟨k0, k1, g0, g1⟩ := K.out.cells
  have K := Lib.hid (K.out.set0 b)
  obtain ⟨q0, q1, q2, q3, q4, q5, q6, q7⟩ := K.out.j.cells
  obtain ⟨m0, m1, m2, m3⟩ := K.out.cells
  go_wp2_with fail
  go_at_call 24; refine (HI.out _).mono ?_; rintro e w4 ⟨rfl, hb⟩; have K := Lib.hid (K.out.step hb); clear hb; obtain ⟨a0, a1, b0, b1, r0, r1, f0, f1⟩ := K.out.j.cells; obtain ⟨k0, k1, g0, g1⟩ := K.out.cells
  go_wp2_with fail
  go_at_call 30; refine (SX.out _).mono ?_; rintro e w5 ⟨rfl, hb⟩; have K := Lib.hid (K.out.step hb); clear hb; obtain ⟨a0, a1, b0, b1, r0, r1, f0, f1⟩ := K.out.j.cells; obtain ⟨k0, k1, g0, g1⟩ := K.out.cells
  go_wp2_with fail
  exact bodyPost_ret (v := rd b a' true) (by simp [results, Try.results38, go_sem, r0, r1, f0, f1]) rfl ⟨rfl, K.out.j.out _ _⟩

set_option maxHeartbeats 2000000 in
theorem rmeet_TFf (a a' b b' : ByteArray) (w : World) (za : a.size ≤ maxLen) (za' : a'.size ≤ maxLen) (zb : b.size ≤ maxLen) (zb' : b'.size ≤ maxLen) (sa : spanB a.data.toList a'.data.toList = true) (sb : spanB b.data.toList b'.data.toList = true) (eb : b.toList.isEmpty = false) (ea : a.toList.isEmpty = false) (eb1 : b'.toList.isEmpty = false) (ea1 : a'.toList.isEmpty = false) (hl : decide (cmpV a.data.toList b.data.toList < 0) = true) (hh : decide (cmpV b'.data.toList a'.data.toList < 0) = false) (hs : spanB b.data.toList a'.data.toList = false) :
    Calls Try.prog 38 #[spv a a', spv b b'] w fun e w' => e = .returned (rd ⟨#[]⟩ ⟨#[]⟩ false) ∧ Below w.heap.size w w' := by
  have SA : Hid (Says 30 #[spv a a'] (.bool true)) := Lib.hid (by have h := rspanMay_any a a' za za'; rwa [sa] at h)
  have SB : Hid (Says 30 #[spv b b'] (.bool true)) := Lib.hid (by have h := rspanMay_any b b' zb zb'; rwa [sb] at h)
  have SX : Hid (Says 30 #[spv b a'] (.bool false)) := Lib.hid (by have h := rspanMay_any b a' zb za'; rwa [hs] at h)
  have LO : Hid (Says 24 #[.string a, .string b] (.bool true)) := Lib.hid (fun w => by have h := less_any a b w za zb; rwa [hl] at h)
  have HI : Hid (Says 24 #[.string b', .string a'] (.bool false)) := Lib.hid (fun w => by have h := less_any b' a' w zb' za'; rwa [hh] at h)
  have J := Lib.hid (MJ.start w a a' b b')
  clear sa sb hs za za' zb zb' hl hh
  go_enter Try.func38, Try.ntmps38
  go_wp2_with fail
  go_at_call 30; refine (SA.out _).mono ?_; rintro e w1 ⟨rfl, hb⟩; have J := Lib.hid (J.out.step hb); clear hb; obtain ⟨a0, a1, b0, b1, r0, r1, f0, f1⟩ := J.out.cells
  go_wp2_with fail
  go_at_call 30; refine (SB.out _).mono ?_; rintro e w2 ⟨rfl, hb⟩; clear a0 a1 b0 b1 r0 r1 f0 f1; have J := Lib.hid (J.out.step hb); clear hb; obtain ⟨a0, a1, b0, b1, r0, r1, f0, f1⟩ := J.out.cells
  have K := Lib.hid (MK.start J.out a a')
  obtain ⟨p0, p1, p2, p3, p4, p5, p6, p7⟩ := K.out.j.cells
  have lt0 := J.out.a.lt
  have lt1 := J.out.b.lt
  have lt2 := K.out.lt
  go_wp2_with fail
  go_at_call 24; refine (LO.out _).mono ?_; rintro e w3 ⟨rfl, hb⟩; clear a0 a1 b0 b1 r0 r1 f0 f1 p0 p1 p2 p3 p4 p5 p6 p7 lt0 lt1; have K := Lib.hid (K.out.step hb); clear hb; obtain ⟨a0, a1, b0, b1, r0, r1, f0, f1⟩ := K.out.j.cells; obtain ⟨k0, k1, g0, g1⟩ := K.out.cells
  have K := Lib.hid (K.out.set0 b)
  obtain ⟨q0, q1, q2, q3, q4, q5, q6, q7⟩ := K.out.j.cells
  obtain ⟨m0, m1, m2, m3⟩ := K.out.cells
  go_wp2_with fail
  go_at_call 24; refine (HI.out _).mono ?_; rintro e w4 ⟨rfl, hb⟩; have K := Lib.hid (K.out.step hb); clear hb; obtain ⟨a0, a1, b0, b1, r0, r1, f0, f1⟩ := K.out.j.cells; obtain ⟨k0, k1, g0, g1⟩ := K.out.cells
  go_wp2_with fail
  go_at_call 30; refine (SX.out _).mono ?_; rintro e w5 ⟨rfl, hb⟩; have K := Lib.hid (K.out.step hb); clear hb; obtain ⟨a0, a1, b0, b1, r0, r1, f0, f1⟩ := K.out.j.cells; obtain ⟨k0, k1, g0, g1⟩ := K.out.cells
  go_wp2_with fail
  exact bodyPost_ret (v := rd ⟨#[]⟩ ⟨#[]⟩ false) (by simp [results, Try.results38, go_sem, r0, r1, f0, f1]) rfl ⟨rfl, K.out.j.out _ _⟩

set_option maxHeartbeats 2000000 in
theorem rmeet_TTt (a a' b b' : ByteArray) (w : World) (za : a.size ≤ maxLen) (za' : a'.size ≤ maxLen) (zb : b.size ≤ maxLen) (zb' : b'.size ≤ maxLen) (sa : spanB a.data.toList a'.data.toList = true) (sb : spanB b.data.toList b'.data.toList = true) (eb : b.toList.isEmpty = false) (ea : a.toList.isEmpty = false) (eb1 : b'.toList.isEmpty = false) (ea1 : a'.toList.isEmpty = false) (hl : decide (cmpV a.data.toList b.data.toList < 0) = true) (hh : decide (cmpV b'.data.toList a'.data.toList < 0) = true) (hs : spanB b.data.toList b'.data.toList = true) :
    Calls Try.prog 38 #[spv a a', spv b b'] w fun e w' => e = .returned (rd b b' true) ∧ Below w.heap.size w w' := by
  have SA : Hid (Says 30 #[spv a a'] (.bool true)) := Lib.hid (by have h := rspanMay_any a a' za za'; rwa [sa] at h)
  have SB : Hid (Says 30 #[spv b b'] (.bool true)) := Lib.hid (by have h := rspanMay_any b b' zb zb'; rwa [sb] at h)
  have SX : Hid (Says 30 #[spv b b'] (.bool true)) := Lib.hid (by have h := rspanMay_any b b' zb zb'; rwa [hs] at h)
  have LO : Hid (Says 24 #[.string a, .string b] (.bool true)) := Lib.hid (fun w => by have h := less_any a b w za zb; rwa [hl] at h)
  have HI : Hid (Says 24 #[.string b', .string a'] (.bool true)) := Lib.hid (fun w => by have h := less_any b' a' w zb' za'; rwa [hh] at h)
  have J := Lib.hid (MJ.start w a a' b b')
  clear sa sb hs za za' zb zb' hl hh
  go_enter Try.func38, Try.ntmps38
  go_wp2_with fail
  go_at_call 30; refine (SA.out _).mono ?_; rintro e w1 ⟨rfl, hb⟩; have J := Lib.hid (J.out.step hb); clear hb; obtain ⟨a0, a1, b0, b1, r0, r1, f0, f1⟩ := J.out.cells
  go_wp2_with fail
  go_at_call 30; refine (SB.out _).mono ?_; rintro e w2 ⟨rfl, hb⟩; clear a0 a1 b0 b1 r0 r1 f0 f1; have J := Lib.hid (J.out.step hb); clear hb; obtain ⟨a0, a1, b0, b1, r0, r1, f0, f1⟩ := J.out.cells
  have K := Lib.hid (MK.start J.out a a')
  obtain ⟨p0, p1, p2, p3, p4, p5, p6, p7⟩ := K.out.j.cells
  have lt0 := J.out.a.lt
  have lt1 := J.out.b.lt
  have lt2 := K.out.lt
  go_wp2_with fail
  go_at_call 24; refine (LO.out _).mono ?_; rintro e w3 ⟨rfl, hb⟩; clear a0 a1 b0 b1 r0 r1 f0 f1 p0 p1 p2 p3 p4 p5 p6 p7 lt0 lt1; have K := Lib.hid (K.out.step hb); clear hb; obtain ⟨a0, a1, b0, b1, r0, r1, f0, f1⟩ := K.out.j.cells; obtain ⟨k0, k1, g0, g1⟩ := K.out.cells
  have K := Lib.hid (K.out.set0 b)
  obtain ⟨q0, q1, q2, q3, q4, q5, q6, q7⟩ := K.out.j.cells
  obtain ⟨m0, m1, m2, m3⟩ := K.out.cells
  go_wp2_with fail
  go_at_call 24; refine (HI.out _).mono ?_; rintro e w4 ⟨rfl, hb⟩; have K := Lib.hid (K.out.step hb); clear hb; obtain ⟨a0, a1, b0, b1, r0, r1, f0, f1⟩ := K.out.j.cells; obtain ⟨k0, k1, g0, g1⟩ := K.out.cells
  have K := Lib.hid (K.out.set1 b')
  obtain ⟨x0, x1, x2, x3, x4, x5, x6, x7⟩ := K.out.j.cells
  obtain ⟨y0, y1, y2, y3⟩ := K.out.cells
  go_wp2_with fail
  go_at_call 30; refine (SX.out _).mono ?_; rintro e w5 ⟨rfl, hb⟩; have K := Lib.hid (K.out.step hb); clear hb; obtain ⟨a0, a1, b0, b1, r0, r1, f0, f1⟩ := K.out.j.cells; obtain ⟨k0, k1, g0, g1⟩ := K.out.cells
  go_wp2_with fail
  exact bodyPost_ret (v := rd b b' true) (by simp [results, Try.results38, go_sem, r0, r1, f0, f1]) rfl ⟨rfl, K.out.j.out _ _⟩

set_option maxHeartbeats 2000000 in
theorem rmeet_TTf (a a' b b' : ByteArray) (w : World) (za : a.size ≤ maxLen) (za' : a'.size ≤ maxLen) (zb : b.size ≤ maxLen) (zb' : b'.size ≤ maxLen) (sa : spanB a.data.toList a'.data.toList = true) (sb : spanB b.data.toList b'.data.toList = true) (eb : b.toList.isEmpty = false) (ea : a.toList.isEmpty = false) (eb1 : b'.toList.isEmpty = false) (ea1 : a'.toList.isEmpty = false) (hl : decide (cmpV a.data.toList b.data.toList < 0) = true) (hh : decide (cmpV b'.data.toList a'.data.toList < 0) = true) (hs : spanB b.data.toList b'.data.toList = false) :
    Calls Try.prog 38 #[spv a a', spv b b'] w fun e w' => e = .returned (rd ⟨#[]⟩ ⟨#[]⟩ false) ∧ Below w.heap.size w w' := by
  have SA : Hid (Says 30 #[spv a a'] (.bool true)) := Lib.hid (by have h := rspanMay_any a a' za za'; rwa [sa] at h)
  have SB : Hid (Says 30 #[spv b b'] (.bool true)) := Lib.hid (by have h := rspanMay_any b b' zb zb'; rwa [sb] at h)
  have SX : Hid (Says 30 #[spv b b'] (.bool false)) := Lib.hid (by have h := rspanMay_any b b' zb zb'; rwa [hs] at h)
  have LO : Hid (Says 24 #[.string a, .string b] (.bool true)) := Lib.hid (fun w => by have h := less_any a b w za zb; rwa [hl] at h)
  have HI : Hid (Says 24 #[.string b', .string a'] (.bool true)) := Lib.hid (fun w => by have h := less_any b' a' w zb' za'; rwa [hh] at h)
  have J := Lib.hid (MJ.start w a a' b b')
  clear sa sb hs za za' zb zb' hl hh
  go_enter Try.func38, Try.ntmps38
  go_wp2_with fail
  go_at_call 30; refine (SA.out _).mono ?_; rintro e w1 ⟨rfl, hb⟩; have J := Lib.hid (J.out.step hb); clear hb; obtain ⟨a0, a1, b0, b1, r0, r1, f0, f1⟩ := J.out.cells
  go_wp2_with fail
  go_at_call 30; refine (SB.out _).mono ?_; rintro e w2 ⟨rfl, hb⟩; clear a0 a1 b0 b1 r0 r1 f0 f1; have J := Lib.hid (J.out.step hb); clear hb; obtain ⟨a0, a1, b0, b1, r0, r1, f0, f1⟩ := J.out.cells
  have K := Lib.hid (MK.start J.out a a')
  obtain ⟨p0, p1, p2, p3, p4, p5, p6, p7⟩ := K.out.j.cells
  have lt0 := J.out.a.lt
  have lt1 := J.out.b.lt
  have lt2 := K.out.lt
  go_wp2_with fail
  go_at_call 24; refine (LO.out _).mono ?_; rintro e w3 ⟨rfl, hb⟩; clear a0 a1 b0 b1 r0 r1 f0 f1 p0 p1 p2 p3 p4 p5 p6 p7 lt0 lt1; have K := Lib.hid (K.out.step hb); clear hb; obtain ⟨a0, a1, b0, b1, r0, r1, f0, f1⟩ := K.out.j.cells; obtain ⟨k0, k1, g0, g1⟩ := K.out.cells
  have K := Lib.hid (K.out.set0 b)
  obtain ⟨q0, q1, q2, q3, q4, q5, q6, q7⟩ := K.out.j.cells
  obtain ⟨m0, m1, m2, m3⟩ := K.out.cells
  go_wp2_with fail
  go_at_call 24; refine (HI.out _).mono ?_; rintro e w4 ⟨rfl, hb⟩; have K := Lib.hid (K.out.step hb); clear hb; obtain ⟨a0, a1, b0, b1, r0, r1, f0, f1⟩ := K.out.j.cells; obtain ⟨k0, k1, g0, g1⟩ := K.out.cells
  have K := Lib.hid (K.out.set1 b')
  obtain ⟨x0, x1, x2, x3, x4, x5, x6, x7⟩ := K.out.j.cells
  obtain ⟨y0, y1, y2, y3⟩ := K.out.cells
  go_wp2_with fail
  go_at_call 30; refine (SX.out _).mono ?_; rintro e w5 ⟨rfl, hb⟩; have K := Lib.hid (K.out.step hb); clear hb; obtain ⟨a0, a1, b0, b1, r0, r1, f0, f1⟩ := K.out.j.cells; obtain ⟨k0, k1, g0, g1⟩ := K.out.cells
  go_wp2_with fail
  exact bodyPost_ret (v := rd ⟨#[]⟩ ⟨#[]⟩ false) (by simp [results, Try.results38, go_sem, r0, r1, f0, f1]) rfl ⟨rfl, K.out.j.out _ _⟩

end Go.Proofs.Ytdmobdiffobdkaa.Ver
