import Derived.Test.YtkpnmpjnpcjohaaGreatGeoSmalls
import Derived.Lib.SliceRun
set_option maxHeartbeats 1000000
set_option maxRecDepth 100000
namespace Go.Proofs.YtkpnmpjnpcjohaaGreat
open ChangeShapes WideShapes ChangeAt RowKit Mem MemI GeoMath
namespace Geo
def q_O(t:TypeId)(w:World)(nn:Int)(xs:List Int)(e:Ending)(w':World):Prop:=
 Below w.heap.size w w'∧((newE nn xs≠0∧e=.returned (.tuple #[.pointer none,.int .i64 (newE nn xs)]))∨
  (newE nn xs=0∧∃b n:Nat,nn=n∧e=.returned (.tuple #[.pointer (some ⟨b,0,none⟩),.int .i64 0])∧MapAt w' t w.heap.size b n xs))
theorem f_Q{t:TypeId}{w w':World}{nn v:Int}{xs:List Int}(h:newE nn xs=v)(hv:v≠0)(hb:Below w.heap.size w w'):q_O t w nn xs (.returned (.tuple #[.pointer none,.int .i64 v])) w':=by
 subst h;exact⟨hb,.inl ⟨hv,rfl⟩⟩
theorem o_s{t:TypeId}{w w':World}{n b:Nat}{xs:List Int}(h:newE n xs=0)(hb:Below w.heap.size w w')(hm:MapAt w' t w.heap.size b n xs):q_O t w n xs (.returned (.tuple #[.pointer (some ⟨b,0,none⟩),.int .i64 0])) w':=
 ⟨hb,.inr ⟨h,b,n,rfl,rfl,hm⟩⟩
theorem i_J{xs:List Int}{k:Nat}{u:Int}{P:Int→Prop}(h:∀x∈xs.take k,P x)(hu:xs[k]?=some u)(hp:P u):∀x∈xs.take (k+1),P x:=by
 intro x hx;rw[List.take_add_one,hu]at hx;rcases List.mem_append.1 hx with hx|hx
 ·exact h x hx
 ·simp at hx;rw[hx];exact hp
theorem h_i{w:World}{B n a k:Nat}{A:Option Addr}{l:List Int}(hk:k=n*n)(hn:n≤12)(ha:a<n)(h:Ints w B A k l):
 ∃g off q i:Nat,A=some ⟨g,off,none⟩∧(a:Int)*(n:Int)=(q:Int)∧(q:Int)+(a:Int)=(i:Int)∧q≤132∧i≤143∧(i:Int)<(k:Int)∧w.cell? ⟨g,off+i,none⟩=some (.int .i64 (T n l a a)):=by
 subst hk;obtain⟨g,off,e,hc,_⟩:=Ints.T_at h ha ha;obtain⟨q,i,h1,h2,h3,h4,_,h6,h7⟩:=d_r hn ha ha;exact⟨g,off,q,i,e,h1,h2,h3,h4,by rw[Int.natCast_mul];exact h6,by rw[h7];exact hc⟩
theorem q_P(nn:Int)(A:Option Addr)(k c:Nat)(xs:List Int)(w:World)(h:Ints w w.heap.size A k xs):
 Calls Tryz.prog 56 #[.int .i64 nn,.slice A k c] w (q_O 171 w nn xs):=by
 have hm:=Reads.le h;have HI:=Lib.hid h;have HL:=Lib.hid h.length;clear h;by_cases h0:nn<1
 ·have HN:Hid (newE nn xs=1):=e_t (.inl h0)
  go_enter Tryz.func56,Tryz.ntmps56;go_wp2
  go_ret2
  exact f_Q HN.out (by decide) (Below.refl _ _)
 by_cases h1:12<nn
 ·have HN:Hid (newE nn xs=1):=e_t (.inr h1)
  go_enter Tryz.func56,Tryz.ntmps56;go_wp2
  go_ret2
  exact f_Q HN.out (by decide) (Below.refl _ _)
 obtain⟨n,rfl⟩:∃n:Nat,nn=n:=⟨nn.toNat,by omega⟩;have HR:Hid (¬ ((n:Int)<1∨12<(n:Int))):=by show ¬_;omega
 have hn:n≤12:=by omega
 have hn1:1≤n:=by omega
 by_cases hk:k=n*n
 ·have hq:(n:Int)*(n:Int)=(k:Int):=by rw[hk,Int.natCast_mul]
  have hk144:k≤144:=by
   have:n*n≤12*12:=Nat.mul_le_mul hn hn;omega
  have hk0:0<k:=by
   have:1*1≤n*n:=Nat.mul_le_mul hn1 hn1;omega
  have HK:=Lib.hid hk;clear hk h0 h1;go_enter Tryz.func56,Tryz.ntmps56;go_wp2
  go_loop [6] (fun i=>∃j:Nat,j≤k∧i=.int .i64 j∧Hid (∀ x∈xs.take j,0≤x∧x≤1000000)) (fun i=>k-(intOf i).toNat)
  case atStart=>exact⟨0,Nat.zero_le _,rfl,fun x hx=>by simp at hx⟩
  case round=>
   obtain⟨j,hj,rfl,HJ⟩:=hrel;by_cases hlt:j<k
   ·obtain⟨g,off,u,rfl,hu,hc,hg,_⟩:=Ints.at_ HI.out hlt
    have HU:=Lib.hid hu;clear hu;by_cases hu0:u<0
    ·have HN:Hid (newE n xs=7):=e_u HR.out (HL.out.trans HK.out) (List.mem_of_getElem? HU.out) (.inl hu0)
     go_wp2
     go_ret2
     exact f_Q HN.out (by decide) (Below.refl _ _)
    by_cases hu1:1000000<u
    ·have HN:Hid (newE n xs=7):=e_u HR.out (HL.out.trans HK.out) (List.mem_of_getElem? HU.out) (.inr hu1)
     go_wp2
     go_ret2
     exact f_Q HN.out (by decide) (Below.refl _ _)
    have HN:Hid (∀ x∈xs.take (j+1),0≤x∧x≤1000000):=i_J HJ.out HU.out ⟨by omega,by omega⟩;go_wp2
    go_round
    case rel=>exact⟨j+1,by omega,by go_num,HN⟩
    case measure=>simp[intOf];omega
   ·have HA:Hid (∀ x∈xs,0≤x∧x≤1000000):=by
     have:=HJ.out;rw[List.take_of_length_le (by have:=HL.out;omega)]at this;exact this
    clear HJ;go_wp2
    go_loop [7] (fun i=>∃j:Nat,j≤n∧i=.int .i64 j∧Hid (∀ a,a<j→T n xs a a=0)) (fun i=>n-(intOf i).toNat)
    case atStart=>exact⟨0,Nat.zero_le _,rfl,fun a ha=>absurd ha (by omega)⟩
    case round=>
     obtain⟨a,ha,rfl,HD⟩:=hrel;by_cases hlt2:a<n
     ·obtain⟨g,off,q,i,rfl,f1,f2,f3,f4,f5,hc⟩:=h_i HK.out hn hlt2 HI.out
      obtain⟨t,ht⟩:∃t,T n xs a a=t:=⟨_,rfl⟩;rw[ht]at hc;have HT:=Lib.hid ht;clear ht;by_cases ht0:t=0
      ·subst ht0
       have HN:Hid (∀ x,x<a+1→T n xs x x=0):=fun x hx=>by
        by_cases e:x=a
        ·rw[e];exact HT.out
        ·exact HD.out x (by omega)
       go_wp2
       go_round
       case rel=>exact⟨a+1,by omega,by go_num,HN⟩
       case measure=>simp[intOf];omega
      ·have HN:Hid (newE n xs=4):=i_0 HR.out (HL.out.trans HK.out) HA.out hlt2 (by rw[HT.out];exact ht0)
       have ht1:(t==0)=false:=by simpa using ht0
       have ht2:(t != 0)=true:=by simpa using ht0
       clear ht0;go_wp2
       go_ret2
       exact f_Q HN.out (by decide) (Below.refl _ _)
     ·have HN:Hid (newE n xs=0):=i_1 HR.out (HL.out.trans HK.out) HA.out fun x hx=>HD.out x (by omega)
      have HA2:Hid (Ints (w.alloc (Obj.cells #[] 3)) w.heap.size A k xs):=Reads.alloc HI.out (Nat.le_refl _) _;have HO:Hid (Own (w.alloc (Obj.cells #[] 3)) w.heap.size 3 (.slice (some ⟨w.heap.size,0,none⟩) 0 0) 0 []):=Own.new w _ _ [] (Nat.le_refl _) (Nat.zero_le _);have HB:Below w.heap.size w (w.alloc (Obj.cells #[] 3)):=(Below.refl _ _).alloc (Nat.le_refl _) _;go_wp2_with (at_builtin;refine d_u (o:=⟨some 55,_,_,_,_,_⟩) rfl (.tmp 53) (.tmp 54) Tryz.underlying53 o_2 rfl rfl HO.out rfl HA2.out rfl (i_W xs) (by unfold maxLen;omega) (by omega) HB (by simp) (by simp) (Nat.le_refl _) ?_;intro v1 w1 HV HB1 HZ1 _;have HV2:=HV.out;rw[Nat.zero_add,List.nil_append]at HV2;obtain⟨g1,cp,rfl,hg1,hcp⟩:=HV2.row hk0;clear HV;replace HV2:=Lib.hid HV2)
      go_ret2
      refine o_s HN.out (HB1.alloc HB1.size _) ⟨g1,cp,?_,HB1.size,?_,?_⟩
      ·rw[← HK.out];exact Blk.new w1 _ _
      ·rw[← HK.out];exact hcp
      ·rw[← HK.out];exact HV2.out.alloc _
 ·have hne:¬(k:Int)=(n:Int)*(n:Int):=by rw[← Int.natCast_mul];omega
  have HN:Hid (newE n xs=2):=i_Z HR.out (by rw[HL.out];exact hne)
  obtain⟨q,hq,hq1⟩:∃q:Int,(n:Int)*(n:Int)=q∧0≤q∧q≤144:=by
   refine⟨_,rfl,by rw[← Int.natCast_mul];omega,?_⟩;have:n*n≤12*12:=Nat.mul_le_mul hn hn;rw[← Int.natCast_mul];omega
  obtain⟨hq1,hq2⟩:=hq1;rw[hq]at hne;have hne1:((k:Int)==q)=false:=by simpa using hne
  have hne2:((k:Int) != q)=true:=by simpa using hne
  clear hk hne h0 h1;go_enter Tryz.func56,Tryz.ntmps56;go_wp2
  go_ret2
  exact f_Q HN.out (by decide) (Below.refl _ _)
theorem h_j(A:Option Addr)(k c:Nat)(xs:List Int)(w:World)(h:Ints w w.heap.size A k xs)(hk0:0<k)(hk1:k≤144):
 Calls Tryz.prog 37 #[.slice A k c] w (s_E w 3 k (b_l xs)):=by
 obtain⟨g,off,u,rfl,_⟩:=Ints.at_ h hk0;have HA2:Hid (Ints (w.alloc (Obj.cells #[] 3)) w.heap.size (some ⟨g,off,none⟩) k xs):=Reads.alloc h (Nat.le_refl _) _;have HO:Hid (Own (w.alloc (Obj.cells #[] 3)) w.heap.size 3 (.slice (some ⟨w.heap.size,0,none⟩) 0 0) 0 []):=Own.new w _ _ [] (Nat.le_refl _) (Nat.zero_le _);have HB:Below w.heap.size w (w.alloc (Obj.cells #[] 3)):=(Below.refl _ _).alloc (Nat.le_refl _) _;have hnil:(binOp .eql 53 (.slice (some ⟨g,off,none⟩) k c) (.slice none 0 0)).run Tryz.prog w=.ok (.bool false) w:=Lib.run_eql_slice_nil w 53 3 (some ⟨g,off,none⟩) k c 0 0 Tryz.underlying53;clear h;go_enter Tryz.func37,Tryz.ntmps37;go_wp2_with (at_builtin;refine d_u (o:=⟨some 7,_,_,_,_,_⟩) rfl (.tmp 5) (.tmp 6) Tryz.underlying53 o_2 rfl rfl HO.out rfl HA2.out rfl (i_W xs) (by unfold maxLen;omega) (by omega) HB (by simp) (by simp) (Nat.le_refl _) ?_;intro v1 w1 HV HB1 HZ1 _;have HV2:=HV.out;rw[Nat.zero_add,List.nil_append]at HV2;clear HV;replace HV2:=Lib.hid HV2)
 go_ret;exact⟨v1,rfl,HB1,HV2.out⟩
theorem f_e(nn:Int)(A:Option Addr)(k c:Nat)(xs:List Int)(w:World)(h:Ints w w.heap.size A k xs):
 Calls Tryz.prog 36 #[.int .i64 nn,.slice A k c] w fun e w'=>e=.returned (.int .i64 (newE nn xs))∧w=w':=by
 have hm:=Reads.le h;have HI:=Lib.hid h;have HL:=Lib.hid h.length;clear h;by_cases h0:nn<1
 ·have HN:Hid (newE nn xs=1):=e_t (.inl h0)
  go_enter Tryz.func36,Tryz.ntmps36;go_wp2
  go_ret;exact⟨a_5 HN.out.symm,rfl⟩
 by_cases h1:12<nn
 ·have HN:Hid (newE nn xs=1):=e_t (.inr h1)
  go_enter Tryz.func36,Tryz.ntmps36;go_wp2
  go_ret;exact⟨a_5 HN.out.symm,rfl⟩
 obtain⟨n,rfl⟩:∃n:Nat,nn=n:=⟨nn.toNat,by omega⟩;have HR:Hid (¬ ((n:Int)<1∨12<(n:Int))):=by show ¬_;omega
 have hn:n≤12:=by omega
 have hn1:1≤n:=by omega
 by_cases hk:k=n*n
 ·have hq:(n:Int)*(n:Int)=(k:Int):=by rw[hk,Int.natCast_mul]
  have hk144:k≤144:=by
   have:n*n≤12*12:=Nat.mul_le_mul hn hn;omega
  have HK:=Lib.hid hk;clear hk h0 h1;go_enter Tryz.func36,Tryz.ntmps36;go_wp2
  go_loop [22] (fun i=>∃j:Nat,j≤k∧i=.int .i64 j∧Hid (∀ x∈xs.take j,0≤x∧x≤1000000)) (fun i=>k-(intOf i).toNat)
  case atStart=>exact⟨0,Nat.zero_le _,rfl,fun x hx=>by simp at hx⟩
  case round=>
   obtain⟨j,hj,rfl,HJ⟩:=hrel;by_cases hlt:j<k
   ·obtain⟨g,off,u,rfl,hu,hc,hg,_⟩:=Ints.at_ HI.out hlt
    have HU:=Lib.hid hu;clear hu;by_cases hu0:u<0
    ·have HN:Hid (newE n xs=7):=e_u HR.out (HL.out.trans HK.out) (List.mem_of_getElem? HU.out) (.inl hu0)
     go_wp2
     go_ret;exact⟨a_5 HN.out.symm,rfl⟩
    by_cases hu1:1000000<u
    ·have HN:Hid (newE n xs=7):=e_u HR.out (HL.out.trans HK.out) (List.mem_of_getElem? HU.out) (.inr hu1)
     go_wp2
     go_ret;exact⟨a_5 HN.out.symm,rfl⟩
    have HN:Hid (∀ x∈xs.take (j+1),0≤x∧x≤1000000):=i_J HJ.out HU.out ⟨by omega,by omega⟩;go_wp2
    go_round
    case rel=>exact⟨j+1,by omega,by go_num,HN⟩
    case measure=>simp[intOf];omega
   ·have HA:Hid (∀ x∈xs,0≤x∧x≤1000000):=by
     have:=HJ.out;rw[List.take_of_length_le (by have:=HL.out;omega)]at this;exact this
    clear HJ;go_wp2
    go_loop [39] (fun i=>∃j:Nat,j≤n∧i=.int .i64 j∧Hid (∀ a,a<j→T n xs a a=0)) (fun i=>n-(intOf i).toNat)
    case atStart=>exact⟨0,Nat.zero_le _,rfl,fun a ha=>absurd ha (by omega)⟩
    case round=>
     obtain⟨a,ha,rfl,HD⟩:=hrel;by_cases hlt2:a<n
     ·obtain⟨g,off,q,i,rfl,f1,f2,f3,f4,f5,hc⟩:=h_i HK.out hn hlt2 HI.out
      obtain⟨t,ht⟩:∃t,T n xs a a=t:=⟨_,rfl⟩;rw[ht]at hc;have HT:=Lib.hid ht;clear ht;by_cases ht0:t=0
      ·subst ht0
       have HN:Hid (∀ x,x<a+1→T n xs x x=0):=fun x hx=>by
        by_cases e:x=a
        ·rw[e];exact HT.out
        ·exact HD.out x (by omega)
       go_wp2
       go_round
       case rel=>exact⟨a+1,by omega,by go_num,HN⟩
       case measure=>simp[intOf];omega
      ·have HN:Hid (newE n xs=4):=i_0 HR.out (HL.out.trans HK.out) HA.out hlt2 (by rw[HT.out];exact ht0)
       have ht1:(t==0)=false:=by simpa using ht0
       have ht2:(t != 0)=true:=by simpa using ht0
       clear ht0;go_wp2
       go_ret;exact⟨a_5 HN.out.symm,rfl⟩
     ·have HN:Hid (newE n xs=0):=i_1 HR.out (HL.out.trans HK.out) HA.out fun x hx=>HD.out x (by omega)
      go_wp2
      go_ret;exact⟨a_5 HN.out.symm,rfl⟩
 ·have hne:¬(k:Int)=(n:Int)*(n:Int):=by rw[← Int.natCast_mul];omega
  have HN:Hid (newE n xs=2):=i_Z HR.out (by rw[HL.out];exact hne)
  obtain⟨q,hq,hq1⟩:∃q:Int,(n:Int)*(n:Int)=q∧0≤q∧q≤144:=by
   refine⟨_,rfl,by rw[← Int.natCast_mul];omega,?_⟩;have:n*n≤12*12:=Nat.mul_le_mul hn hn;rw[← Int.natCast_mul];omega
  obtain⟨hq1,hq2⟩:=hq1;rw[hq]at hne;have hne1:((k:Int)==q)=false:=by simpa using hne
  have hne2:((k:Int) != q)=true:=by simpa using hne
  clear hk hne h0 h1;go_enter Tryz.func36,Tryz.ntmps36;go_wp2
  go_ret;exact⟨a_5 HN.out.symm,rfl⟩
theorem q_Q{n:Nat}{l:List Int}(h:newE n l=0):0<l.length∧l.length≤144∧l.length=n*n:=by
 obtain⟨h1,h2,h3⟩:=k_J h;have ha:n*n≤12*12:=Nat.mul_le_mul h2 h2;have hb:1*1≤n*n:=Nat.mul_le_mul h1 h1;have:=h3.len;omega
theorem m_C{nn:Int}{l:List Int}(h:newE nn l=0):∃n:Nat,nn=n:=by
 refine⟨nn.toNat,?_⟩;by_cases h0:nn<1
 ·rw[e_t (.inl h0)]at h;omega
 ·omega
theorem q_R(nn:Int)(A:Option Addr)(k c:Nat)(xs:List Int)(w:World)(h:Ints w w.heap.size A k xs):
 Calls Tryz.prog 10 #[.int .i64 nn,.slice A k c] w (q_O 92 w nn xs):=by
 have HI:=Lib.hid h;clear h;by_cases h0:newE nn xs=0
 ·obtain⟨n,rfl⟩:=m_C h0
  have hl:=q_Q h0;rw[Ints.length HI.out]at hl;obtain⟨hk0,hk1,hk⟩:=hl;have HE:=Lib.hid h0;have HK:=Lib.hid hk;clear h0 hk;go_enter Tryz.func10,Tryz.ntmps10;go_wp2_with fail
  go_at_call 36
  refine(f_e _ _ _ _ xs _ HI.out).mono ?_;rintro e w' ⟨rfl,rfl⟩;rw[HE.out];go_wp2_with fail
  go_at_call 37
  refine(h_j _ _ _ xs _ HI.out hk0 hk1).mono ?_;rintro e w1 ⟨v,rfl,HB1,HV⟩;obtain⟨g1,cp,rfl,hg1,hcp⟩:=HV.row hk0;have HV2:=Lib.hid HV;clear HV;go_wp2
  go_ret2
  refine o_s HE.out (HB1.alloc HB1.size _) ⟨g1,cp,?_,HB1.size,?_,?_⟩
  ·rw[← HK.out];exact Blk.new w1 _ _
  ·rw[← HK.out];exact hcp
  ·rw[← HK.out];exact HV2.out.alloc _
 ·obtain⟨v,hv⟩:∃v,newE nn xs=v:=⟨_,rfl⟩
  rw[hv]at h0;have HE:=Lib.hid hv;have h1:(v==0)=false:=by simpa using h0
  have h2:(v != 0)=true:=by simpa using h0
  have HN:=Lib.hid h0;clear h0 hv;go_enter Tryz.func10,Tryz.ntmps10;go_wp2_with fail
  go_at_call 36
  refine(f_e _ _ _ _ xs _ HI.out).mono ?_;rintro e w' ⟨rfl,rfl⟩;rw[HE.out];go_wp2
  go_ret2
  exact f_Q HE.out HN.out (Below.refl _ _)
end Geo
end Go.Proofs.YtkpnmpjnpcjohaaGreat
