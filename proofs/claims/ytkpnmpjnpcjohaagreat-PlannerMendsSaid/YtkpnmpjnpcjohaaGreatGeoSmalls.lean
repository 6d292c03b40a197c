import Derived.Test.YtkpnmpjnpcjohaaGreatLibRows
import Derived.Test.YtkpnmpjnpcjohaaGreatMaths
set_option maxHeartbeats 400000
namespace Go.Proofs.YtkpnmpjnpcjohaaGreat
open ChangeShapes WideShapes ChangeAt RowKit Mem MemI GeoMath
namespace Geo
def MapAt(w:World)(t:TypeId)(base b n:Nat)(l:List Int):Prop:=
 ∃g c,Blk w b t [.int .i64 n,.slice (some ⟨g,0,none⟩) (n*n) c]∧base≤b∧n*n≤c∧Own w base 3 (.slice (some ⟨g,0,none⟩) (n*n) c) (n*n) (b_l l)
section
variable {w w' : World} {t : TypeId} {base b n : Nat} {l : List Int}
theorem MapAt.same(h:MapAt w t base b n l)(hk:∀g,base≤g→g<w.heap.size→w'.heap[g]?=w.heap[g]?):MapAt w' t base b n l:=by
 obtain⟨g,c,h1,h2,h3,h4⟩:=h;exact⟨g,c,(hk b h2 h1.lt).trans h1,h2,h3,h4.same hk⟩
theorem MapAt.keep(h:MapAt w t base b n l){B:Nat}(hb:Below B w w')(hB:w.heap.size≤B):MapAt w' t base b n l:=h.same fun g _ hg=>hb.block g (by omega)
theorem MapAt.drewN(h:MapAt w t base b n l)(d:Nat):MapAt (w.drewN d) t base b n l:=h.same fun _ _ _=>rfl
theorem MapAt.open_(h:MapAt w t base b n l):∃g c,Blk w b t [.int .i64 n,.slice (some ⟨g,0,none⟩) (n*n) c]∧Ints w w.heap.size (some ⟨g,0,none⟩) (n*n) l∧n*n≤c:=by
 obtain⟨g,c,h1,_,h3,h4⟩:=h;exact⟨g,c,h1,h4.reads,h3⟩
theorem MapAt.lower{base':Nat}(h:MapAt w t base b n l)(hb:base'≤base):MapAt w t base' b n l:=by
 obtain⟨g,c,h1,h2,h3,h4⟩:=h;exact⟨g,c,h1,by omega,h3,h4.lower hb⟩
theorem MapAt.put(h:MapAt w t base b n l)(ht:t≠3):∃g c,Blk w b t [.int .i64 n,.slice (some ⟨g,0,none⟩) (n*n) c]∧base≤b∧Ints w w.heap.size (some ⟨g,0,none⟩) (n*n) l∧n*n≤c∧∀i v,i<n*n→base≤g∧w.frozen? ⟨g,i,none⟩=false∧MapAt (w.setCell ⟨g,i,none⟩ (.int .i64 v)) t base b n (l.set i v):=by
 obtain⟨g,c,h1,h2,h3,h4⟩:=h;refine⟨g,c,h1,h2,h4.reads,h3,fun i v hi=>?_⟩;obtain⟨u,_,_,h6,h7⟩:=h4.at_ hi;have hg:=h4.range g rfl
 have hne:b≠g:=by
  rintro rfl;rcases h4.1.2 with⟨e,_⟩|⟨g',cap',cur,e,_,hh,_⟩
  ·cases e
  ·injection e with e;injection e with e;injection e with e
   subst e;unfold Blk at h1;rw[h1]at hh;injection hh with hh;injection hh with _ hh;exact ht hh
 refine⟨hg.1,h6,g,c,(Below.heap_setCell w _ _ b hne).trans h1,h2,h3,?_⟩;rw[← o_1];exact h7 _
end
theorem T_at{n a b:Nat}{l:List Int}(h:l.length=n*n)(ha:a<n)(hb:b<n):l[a*n+b]?=some (T n l a b):=k_I (by rw[h];exact e_s ha hb)
theorem Ints.T_at{w:World}{B n a b:Nat}{A:Option Addr}{l:List Int}(h:Ints w B A (n*n) l)(ha:a<n)(hb:b<n):
 ∃g off,A=some ⟨g,off,none⟩∧w.cell? ⟨g,off+(a*n+b),none⟩=some (.int .i64 (T n l a b))∧g<B:=by
 obtain⟨g,off,u,e,hu,hc,hb',_⟩:=h.at_ (e_s ha hb);rw[Geo.T_at h.length ha hb]at hu;injection hu with hu;exact⟨g,off,e,by rw[hu];exact hc,hb'⟩
theorem Ints.T_at0{w:World}{B g n a b:Nat}{l:List Int}(h:Ints w B (some ⟨g,0,none⟩) (n*n) l)(ha:a<n)(hb:b<n):w.cell? ⟨g,a*n+b,none⟩=some (.int .i64 (T n l a b))∧g<B:=by
 obtain⟨g',off,e,hc,hB⟩:=Ints.T_at h ha hb;injection e with e;injection e with e1 e2;subst e1;subst e2;rw[Nat.zero_add]at hc;exact⟨hc,hB⟩
theorem d_r{n a b:Nat}(hn:n≤12)(ha:a<n)(hb:b<n):∃q i:Nat,(a:Int)*(n:Int)=(q:Int)∧(q:Int)+(b:Int)=(i:Int)∧q≤132∧i≤143∧(0:Int)≤(i:Int)∧(i:Int)<(n:Int)*(n:Int)∧i=a*n+b:=by
 have h1:a*n≤11*12:=Nat.mul_le_mul (by omega) hn;have h2:=e_s ha hb;refine⟨a*n,a*n+b,by rw[Int.natCast_mul],by rw[Int.natCast_add],by omega,by omega,by omega,?_,rfl⟩;rw[← Int.natCast_mul];omega
def b_k(n:Nat)(a:Int):Bool:=decide (0≤a∧a<n)
def k_m(n:Nat)(l:List Int)(a b:Int):Int:=if b_k n a && b_k n b then T n l a.toNat b.toNat else 0
theorem h_X{a b:Int}{x y:Bool}(h:a=b)(h':x=y):Ending.returned (.tuple #[.int .i64 a,.bool x])=.returned (.tuple #[.int .i64 b,.bool y]):=by rw[h,h']
theorem l_D{n:Nat}{a b:Int}{l:List Int}(h:a<0∨(n:Int)≤a∨b<0∨(n:Int)≤b):0=k_m n l a b∧false=(b_k n a && b_k n b):=by
 have:(b_k n a && b_k n b)=false:=by
  simp only[b_k,Bool.and_eq_false_iff,decide_eq_false_iff_not];omega
 simp[k_m,this]
theorem o_t{n a b:Nat}{l:List Int}(ha:a<n)(hb:b<n):T n l a b=k_m n l a b∧true=(b_k n a && b_k n b):=by
 have:(b_k n a && b_k n b)=true:=by simp[b_k,ha,hb]
 simp[k_m,this]
end Geo
namespace Geo
theorem q_S{f:FuncId}{args:Array Value}{w:World}{n:Nat}{v:Value}(h:Calls Tryz.prog f args (w.drewN n) (d_t (w.drewN n) v)):
 Calls Tryz.prog f args (w.drewN n) fun e w''=>e=.returned v∧∃m,w''=w.drewN m:=Calls.quiet_of h
theorem k_n{f:FuncId}{args:Array Value}{w:World}{n:Nat}{v:Value}(h:Calls Tryz.prog f args (w.drewN n) fun e w'=>e=.returned v∧w.drewN n=w'):
 Calls Tryz.prog f args (w.drewN n) fun e w''=>e=.returned v∧∃m,w''=w.drewN m:=h.mono fun _ _ ⟨he,hw⟩=>⟨he,n,hw.symm⟩
theorem f_R(b n:Nat)(w:World)(z0:w.cell? ⟨b,0,none⟩=some (.int .i64 n)):
 Calls Tryz.prog 148 #[.pointer (some ⟨b,0,none⟩)] w fun e w'=>e=.returned (.int .i64 n)∧w=w':=by
 go_enter Tryz.func148,Tryz.ntmps148;go_wp2
 go_ret;exact⟨rfl,rfl⟩
theorem q_T(b n x y q i:Nat)(w:World)(z0:w.cell? ⟨b,0,none⟩=some (.int .i64 n))(hq:(x:Int)*(n:Int)=(q:Int))(hi:(q:Int)+(y:Int)=(i:Int))(hq1:q≤132)(hi1:i≤143):
 Calls Tryz.prog 139 #[.pointer (some ⟨b,0,none⟩),.int .i64 x,.int .i64 y] w fun e w'=>e=.returned (.int .i64 i)∧w=w':=by
 go_enter Tryz.func139,Tryz.ntmps139;go_wp2
 go_ret;exact⟨rfl,rfl⟩
theorem o_u(b n:Nat)(a:Int)(w:World)(z0:w.cell? ⟨b,0,none⟩=some (.int .i64 n))(h:a<0∨(n:Int)≤a):
 Calls Tryz.prog 229 #[.pointer (some ⟨b,0,none⟩),.int .i64 a] w fun e w'=>e=.returned (.bool false)∧w=w':=by
 by_cases h1:a<0
 ·have h2:decide (0≤a)=false:=by simpa using h1
  clear h;go_enter Tryz.func229,Tryz.ntmps229;go_wp2
  go_ret;exact⟨rfl,rfl⟩
 ·have h2:(n:Int)≤a:=by omega
  have h3:decide (0≤a)=true:=by simpa using h1
  have h4:decide (a<(n:Int))=false:=by simpa using h2
  clear h h1;go_enter Tryz.func229,Tryz.ntmps229;go_wp2_with (go_at_call 148;refine(f_R _ n _ z0).mono ?_;rintro e w' ⟨rfl,rfl⟩)
  go_ret;exact⟨rfl,rfl⟩
theorem h_Y(b n x:Nat)(w:World)(z0:w.cell? ⟨b,0,none⟩=some (.int .i64 n))(h:x<n):
 Calls Tryz.prog 229 #[.pointer (some ⟨b,0,none⟩),.int .i64 x] w fun e w'=>e=.returned (.bool true)∧w=w':=by
 go_enter Tryz.func229,Tryz.ntmps229;go_wp2_with (go_at_call 148;refine(f_R _ n _ z0).mono ?_;rintro e w' ⟨rfl,rfl⟩)
 go_ret;exact⟨rfl,rfl⟩
theorem i_K(base b n:Nat)(l:List Int)(a c:Int)(w:World)(h:MapAt w 92 base b n l)(hn:n≤12):
 Calls Tryz.prog 192 #[.pointer (some ⟨b,0,none⟩),.int .i64 a,.int .i64 c] w (d_t w (.tuple #[.int .i64 (k_m n l a c),.bool (b_k n a && b_k n c)])):=by
 obtain⟨g0,cp,hb,hi,hcap⟩:=h.open_;have z0:=hb.cell (i:=0) rfl;have z1:=hb.cell (i:=1) rfl;have HI:=Lib.hid hi;clear h hb hi;by_cases ha:a<0∨(n:Int)≤a
 ·have HN:=Lib.hid (l_D (n:=n) (a:=a) (b:=c) (l:=l) (by omega))
  have HA:=Lib.hid ha;clear ha;go_enter Tryz.func192,Tryz.ntmps192;go_wp2_with (go_at_call 229;refine(o_u _ n _ _ z0 HA.out).mono ?_;rintro e w' ⟨rfl,rfl⟩)
  go_ret2
  exact⟨h_X HN.out.1 HN.out.2,0,rfl⟩
 obtain⟨x,rfl⟩:∃x:Nat,a=x:=⟨a.toNat,by omega⟩;have hx:x<n:=by omega
 clear ha;by_cases hc:c<0∨(n:Int)≤c
 ·have HN:=Lib.hid (l_D (n:=n) (a:=x) (b:=c) (l:=l) (by omega))
  have HC:=Lib.hid hc;clear hc;go_enter Tryz.func192,Tryz.ntmps192;go_wp2_with fail
  go_at_call 229
  refine(h_Y _ n _ _ z0 hx).mono ?_;rintro e w' ⟨rfl,rfl⟩;go_wp2_with fail
  go_at_call 229
  refine(o_u _ n _ _ z0 HC.out).mono ?_;rintro e w' ⟨rfl,rfl⟩;go_wp2
  go_ret2
  exact⟨h_X HN.out.1 HN.out.2,0,rfl⟩
 ·obtain⟨y,rfl⟩:∃y:Nat,c=y:=⟨c.toNat,by omega⟩
  have hy:y<n:=by omega
  clear hc;have HN:=Lib.hid (o_t (l:=l) hx hy);obtain⟨hc,hg⟩:=Ints.T_at0 HI.out hx hy;obtain⟨q,i,hq,hqi,hq0,hq1,hi0,hi1,hi2⟩:=d_r hn hx hy;rw[← hi2]at hc;clear hi2;have HQ:=Lib.hid hq;have HQI:=Lib.hid hqi;clear hq hqi;go_enter Tryz.func192,Tryz.ntmps192;go_wp2_with fail
  go_at_call 229
  refine(h_Y _ n _ _ z0 hx).mono ?_;rintro e w' ⟨rfl,rfl⟩;go_wp2_with fail
  go_at_call 229
  refine(h_Y _ n _ _ z0 hy).mono ?_;rintro e w' ⟨rfl,rfl⟩;go_wp2_with fail
  go_quiet ((go_at_call 139;exact k_n (q_T _ n _ _ q i _ (by exact z0) HQ.out HQI.out hq0 hq1)))
  go_wp2
  go_ret2
  exact⟨h_X HN.out.1 HN.out.2,_,rfl⟩
end Geo
end Go.Proofs.YtkpnmpjnpcjohaaGreat
