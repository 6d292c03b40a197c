import Derived.Test.YtkpnmpjnpcjohaaGreatAuditMaths
import Derived.Test.YtkpnmpjnpcjohaaGreatJoined11
import Derived.Test.YtkpnmpjnpcjohaaGreatCertSmalls
set_option linter.unusedSimpArgs false
set_option linter.unusedVariables false
set_option maxHeartbeats 8000000
set_option maxRecDepth 100000
namespace Go.Proofs.YtkpnmpjnpcjohaaGreat
open ChangeShapes WideShapes ChangeAt RowKit Mem FleetMath AuditMath
namespace Rec
def d_Z(l:List Trb):List Value:=l.flatMap fun x=>[.int .i64 x.drv,.int .i64 x.ord,.int .i64 x.why]
theorem e_5(l m:List Trb):d_Z (l++m)=d_Z l++d_Z m:=by simp[d_Z]
theorem i_x(l:List Trb):∀v∈d_Z l,v.oneCell'=true:=by
 intro v hv;simp only[d_Z,List.mem_flatMap,List.mem_cons,List.not_mem_nil,or_false]at hv;obtain⟨x,_,hv⟩:=hv;rcases hv with rfl|rfl|rfl<;>rfl
theorem h_G:(Tryz.prog.info? 130).map (fun i=>(i.zero,i.size,i.bytes))=some (some (.agg #[.int .i64 0,.int .i64 0,.int .i64 0]),3,24):=by kernel_rfl
end Rec
namespace Audit
open GeoMath PlanMath CertMath Rec Geo Span Deal Route Plan Cert Cert.OneR
abbrev d_i(t:Trb):List Value:=[.int .i64 t.drv,.int .i64 t.ord,.int .i64 t.why]
theorem g_4(t:Trb):∀v∈d_i t,v.oneCell'=true:=by
 intro v hv;simp only[List.mem_cons,List.not_mem_nil,or_false]at hv;rcases hv with rfl|rfl|rfl<;>rfl
theorem l_8(l:List Trb)(t:Trb):d_Z (l++[t])=d_Z l++d_i t:=by rw[e_5];rfl
structure TL(X:World)(v:Value)(l:List Trb)(u:World):Prop where
 below:Below X.heap.size X u
 own:OwnK u X.heap.size 130 3 v l.length (d_Z l)
def KB(v:Value)(u:World)(g:Nat)(t:TypeId)(vs:List Value):Prop:=Blk u g t vs∧v.ownBlock≠some g
section
variable {X u u' : World} {v v' : Value} {l : List Trb} {g : Nat} {t : TypeId} {vs : List Value}
theorem TL.start(X:World):TL X (.slice none 0 0) [] X:=⟨Below.refl _ _,OwnK.nil _ _ _ _⟩
theorem TL.next(h:TL X v l u)(hb:Below u.heap.size u u'):TL X v l u':=⟨h.below.trans (hb.mono h.below.size),h.own.keep hb (Nat.le_refl _)⟩
theorem TL.alloc(h:TL X v l u)(o:Obj):TL X v l (u.alloc o):=h.next ((Below.refl _ _).alloc (Nat.le_refl _) _)
theorem TL.push{t:Trb}(h:TL X v l u)(ho:OwnK u' X.heap.size 130 3 v' (l.length+1) (d_Z l++d_i t))(hg:u.grownBy u' v.ownBlock):TL X v' (l++[t]) u':=
 ⟨h.own.below h.below hg h.below.size (Nat.le_refl _),by rw[l_8,List.length_append];exact ho⟩
theorem KB.of(h:TL X v l u)(hb:Blk u g t vs)(ht:t≠130):KB v u g t vs:=by
 refine⟨hb,fun e=>?_⟩;rcases h.own.blk with⟨rfl,_⟩|⟨g',cap,cur,rfl,_,h2,_⟩
 ·cases e
 ·have:g'=g:=by simpa[Value.ownBlock]using e
  subst this;unfold Blk at hb h2;rw[hb]at h2;injection h2 with h2;injection h2 with _ h2;exact ht h2
theorem KB.push(h:KB v u g t vs)(hg:u.grownBy u' v.ownBlock)(hn:v'.ownBlock=v.ownBlock∨v'.ownBlock=some u.heap.size):KB v' u' g t vs:=by
 refine⟨(hg.block g h.1.lt fun e=>h.2 e.symm).trans h.1,?_⟩;rcases hn with e|e
 ·rw[e];exact h.2
 ·rw[e];intro e';injection e' with e';have:=h.1.lt;omega
end
theorem l_9{X u:World}{ops:Array Oper}{rest:List Oper}{o:Oper}{a:Act}{Q:Exit→Act→World→Prop}{v:Value}{l:List Trb}(hgd:o.guard=none)(s x:Operand)
 (ho:o.op=.call {callee:=.builtin .append,args:=#[s,x],argTypes:=#[78,78] })
 (h:TL X v l u) (hs:a.eval s=v) {g c:Nat} (t:Trb) (hy:Blk u g 130 (d_i t)) (hx:a.eval x=.slice (some ⟨g,0,none⟩) 1 c) (hl:l.length≤100000)
 (hk:∀v' u',Hid (TL X v' (l++[t]) u')→Hid (∀ b T vs,KB v u b T vs→KB v' u' b T vs)→wpList Tryz.prog ops Q rest (a.put o.dst v') u'):wpList Tryz.prog ops Q (o::rest) a u:=
 a_x hgd s x Tryz.underlying78 h_G rfl (by decide) ho h.own hs hy hx rfl (g_4 t) (by unfold maxLen;omega) (by omega) h.below.size
  fun v' w' h1 h2 h3=>hk v' w' (h.push h1.out h2.out) (Lib.hid fun b T vs hb=>hb.push h2.out h3.out)
section
variable {o : Oper} {a : Act} {u : World} {x y : Operand}
theorem f_u{b:Bool}{T:TypeId}(h:o.op=.unOp .not T x)(hx:a.eval x=.bool b):(execOp a.eval o).run Tryz.prog u=.ok (.value (.bool (!b))) u:=by
 obtain⟨ρ,hρ⟩:∃ρ,a.eval=ρ:=⟨_,rfl⟩;rw[hρ]at hx ⊢;unfold execOp;rw[h];simp[go_sem,hx]
theorem n_X{k:Nat}{T:TypeId}(h:o.op=.binOp .add 3 x (.const (.int .i64 1)) T)(hp:a.eval x=.int .i64 (k:Int))(hk:k≤1000000):(execOp a.eval o).run Tryz.prog u=.ok (.value (.int .i64 ((k+1:Nat):Int))) u:=by
 have hc:a.eval (.const (.int .i64 1))=.int .i64 1:=rfl;obtain⟨ρ,hρ⟩:∃ρ,a.eval=ρ:=⟨_,rfl⟩;rw[hρ]at hp hc ⊢;have hw:IntKind.i64.wrap ((k:Int)+1)=(k:Int)+1:=IntWalk.i64_in _ (by omega);unfold execOp;rw[h];simp[go_sem,hp,hc,hw]
end
end Audit
namespace Audit
open GeoMath PlanMath CertMath Rec Geo Span Deal Route Plan Cert
theorem j_X(v:Int)(w:World):Calls Tryz.prog 191 #[.int .i64 v] w (fun e w'=>e=.returned (stpV ⟨v,false⟩)∧Below w.heap.size w w'):=by
 go_enter Tryz.func191,Tryz.ntmps191;go_wp2
 refine bodyPost_ret (v:=stpV ⟨v,false⟩) ?_ rfl ⟨rfl,?_⟩
 ·simp[results,Tryz.results191,go_sem]
 ·exact(Below.refl _ _).alloc (Nat.le_refl _) _
theorem h_H(v:Int)(w:World):Calls Tryz.prog 135 #[.int .i64 v] w (fun e w'=>e=.returned (stpV ⟨v,true⟩)∧Below w.heap.size w w'):=by
 go_enter Tryz.func135,Tryz.ntmps135;go_wp2
 refine bodyPost_ret (v:=stpV ⟨v,true⟩) ?_ rfl ⟨rfl,?_⟩
 ·simp[results,Tryz.results135,go_sem]
 ·exact(Below.refl _ _).alloc (Nat.le_refl _) _
theorem n_Y(o:FleetMath.Ord)(s:Stp)(si:Site)(w:World)(hs:a_e o s=si):Calls Tryz.prog 133 #[ordV o,stpV s] w (fun e w'=>e=.returned (h_7 si)∧Below w.heap.size w w'):=by
 obtain⟨so,sd⟩:=s;cases sd with
 |true=>
  have h1:o.drop=si:=hs;subst h1;clear hs;go_enter Tryz.func133,Tryz.ntmps133;go_wp2
  refine bodyPost_ret (v:=h_7 o.drop) ?_ rfl ⟨rfl,?_⟩
  ·simp[results,Tryz.results133,go_sem]
  ·exact(((Below.refl _ _).alloc (Nat.le_refl _) _).alloc (by simp) _).alloc (by simp;omega) _
 |false=>
  have h1:o.pick=si:=hs;subst h1;clear hs;go_enter Tryz.func133,Tryz.ntmps133;go_wp2
  refine bodyPost_ret (v:=h_7 o.pick) ?_ rfl ⟨rfl,?_⟩
  ·simp[results,Tryz.results133,go_sem]
  ·exact(((Below.refl _ _).alloc (Nat.le_refl _) _).alloc (by simp) _).alloc (by simp;omega) _
theorem g_5(x:RM)(k:Nat)(w:World)(hk:x.rt.served=(k:Int))(h1:k≤x.n)(h2:x.n≤x.c)(h3:x.n≤9223372036854775807):
 Calls Tryz.prog 77 #[rteV x] w (fun e w'=>e=.returned (.slice x.a k x.c)∧Below w.heap.size w w'):=by
 obtain⟨⟨drv,served,stops⟩,a,n,c⟩:=x;simp only at hk h1 h2 h3;subst hk;have h4:(0:Int)≤(k:Int):=by omega
 have h5:(k:Int)≤(n:Int):=by omega
 have h6:(k:Int)≤(c:Int):=by omega
 go_enter Tryz.func77,Tryz.ntmps77;go_wp2
 go_ret;exact⟨rfl,(Below.refl _ _).alloc (Nat.le_refl _) _⟩
theorem m_a(A:Option Addr)(n c:Nat)(l1:List Stp)(A3:Option Addr)(n3 c3:Nat)(l2:List Stp)(b:Bool)(w:World)(hv:Stps w w.heap.size A n l1)(hs:Stps w w.heap.size A3 n3 l2)(hb:decide (l1=l2)=b):
 Calls Tryz.prog 76 #[.slice A n c,.slice A3 n3 c3] w (fun e w'=>e=.returned (.bool b)∧Below w.heap.size w w'):=by
 have hm:=Recs.le hv;have hm3:=Recs.le hs;have HV:=Lib.hid hv;have HST:=Lib.hid hs;have HL:=Lib.hid hv.length;have HL3:=Lib.hid hs.length;have HB:=Lib.hid hb;clear hv hs hb;go_enter Tryz.func76,Tryz.ntmps76;by_cases hlen:n=n3
 case neg=>
  have HF:Hid (false=b):=by
   show _=_;rw[← HB.out,decide_eq_false (fun e=>hlen (by rw[← HL.out,←HL3.out,←e]))]
  have e1:((n:Int) != (n3:Int))=true:=by simp only[bne_iff_ne,ne_eq];omega
  clear hlen;go_wp2_with fail
  go_ret;exact⟨a_j HF.out,Below.refl _ _⟩
 subst hlen;go_wp2_with fail
 go_loopw [13] (fun i wr=>∃k:Nat,k≤n∧i=.int .i64 k∧Hid (Below w.heap.size w wr)∧Hid (l1.take k=l2.take k)) (fun i _=>n-(intOf i).toNat)
 case atStart=>exact⟨0,Nat.zero_le _,rfl,Below.refl _ _,Lib.hid rfl⟩
 case round=>
  obtain⟨k,hk,rfl,HBW,HK⟩:=hrel;by_cases hlt:k<n
  ·obtain⟨b1,off1,x,hA1,_,hx,_,c0,c1⟩:=Stps.at_ (Recs.keep HV.out HBW.out) hlt
   obtain⟨b2,off2,y,hA2,_,hy,_,d0,d1⟩:=Stps.at_ (Recs.keep HST.out HBW.out) hlt;subst hA1;subst hA2;by_cases he:x=y
   ·subst he
    have HN:Hid (l1.take (k+1)=l2.take (k+1)):=by
     show _=_;rw[List.take_add_one,List.take_add_one,hx,hy,HK.out]
    clear HK hx hy;go_wp2_with fail
    go_quiet (fail)
    go_wp2_with fail
    go_roundw
    case rel=>exact⟨k+1,by omega,by go_num,Lib.hid (a_l HBW.out _),HN⟩
    case measure=>simp[intOf];omega
   ·have HF:Hid (false=b):=by
     show _=_;rw[← HB.out,decide_eq_false (fun e=>he (by rw[e,hy]at hx;injection hx with hx;exact hx.symm))]
    clear HK hx hy;by_cases e1:x.ord=y.ord
    ·have e2:¬x.drop=y.drop:=fun h=>he (Stp.ext_iff'.2 ⟨e1,h⟩)
     have e3:(x.drop==y.drop)=false:=by simpa using e2
     rw[← e1]at d0;clear he e1 e2;go_wp2_with fail
     go_quiet (fail)
     go_wp2_with fail
     go_ret;exact⟨a_j HF.out,a_l HBW.out _⟩
    ·have e3:(x.ord==y.ord)=false:=by simpa using e1
     clear he e1;go_wp2_with fail
     go_quiet (fail)
     go_wp2_with fail
     go_ret;exact⟨a_j HF.out,a_l HBW.out _⟩
  ·have HF:Hid (true=b):=by
    show _=_;have h1:=HK.out;rw[List.take_of_length_le (by have:=HL.out;omega),List.take_of_length_le (by have:=HL3.out;omega)]at h1;rw[← HB.out,decide_eq_true h1]
   clear HK;go_wp2_with fail
   go_ret;exact⟨a_j HF.out,HBW.out⟩
abbrev noRM:RM:=⟨⟨0,0,[]⟩,none,0,0⟩
def rmOf(l:List RM)(id:Int):Option RM:=l.find? (fun x=>decide (x.rt.drv=id))
def rmOV:Option RM→Value
 |none=>.tuple #[rteV noRM,.bool false]
 |some x=>.tuple #[rteV x,.bool true]
def e_g:List RM→Int→Nat→Int
 |[],_,_=>-1
 |x::r,id,k=>if x.rt.drv=id then(k:Int)else e_g r id (k+1)
theorem m_b(l:List RM)(id:Int)(k:Nat):(rmOf l id=none∧e_g l id k=-1)∨∃(i:Nat) (d:RM),l[i]?=some d∧rmOf l id=some d∧e_g l id k=((k+i:Nat):Int):=by
 unfold rmOf;induction l generalizing k with
 |nil=>exact .inl ⟨rfl,rfl⟩
 |cons x r ih=>
  by_cases h:x.rt.drv=id
  ·exact .inr ⟨0,x,rfl,by rw[List.find?_cons,decide_eq_true h],by rw[e_g,if_pos h];rfl⟩
  ·rw[e_g,if_neg h,List.find?_cons,decide_eq_false h]
   rcases ih (k+1)with⟨h1,h2⟩|⟨i,d,h1,h2,h3⟩
   ·exact .inl ⟨h1,h2⟩
   ·exact .inr ⟨i+1,d,h1,h2,by rw[h3];omega⟩
theorem q_t(l:List RM)(id:Int):(rmOf l id=none∧e_g l id 0=-1)∨∃(i:Nat) (d:RM),l[i]?=some d∧rmOf l id=some d∧e_g l id 0=(i:Int):=by
 rcases m_b l id 0 with⟨h1,h2⟩|⟨i,d,h1,h2,h3⟩
 ·exact .inl ⟨h1,h2⟩
 ·exact .inr ⟨i,d,h1,h2,by rw[h3,Nat.zero_add]⟩
theorem m_c(x:RM)(l:List RM)(id:Int)(k:Nat):e_g (x::l) id k=if x.rt.drv=id then(k:Int)else e_g l id (k+1):=rfl
abbrev putR(u:World)(g:Nat)(x:RM):World:=(((u.setCell ⟨g,0,none⟩ (.int .i64 x.rt.drv)).setCell ⟨g,1,none⟩ (.int .i64 x.rt.served)).setCell ⟨g,2,none⟩ (.slice x.a x.n x.c))
theorem f_v{u:World}{g:Nat}{a0 a1 a2:Value}(h:Blk u g 37 [a0,a1,a2])(x:RM):RBox (putR u g x) g x:=(((h.put 0 (.int .i64 x.rt.drv)).put 1 (.int .i64 x.rt.served)).put 2 (.slice x.a x.n x.c))
theorem d_I{B:Nat}{w u:World}{g:Nat}(h:Below B w u)(hg:B≤g)(x:RM):Below B w (putR u g x):=(((h.setCell hg _).setCell hg _).setCell hg _)
theorem n_Z(o:RM)(b:Nat)(x:Int)(w:World)(hb:Blk w b 3 [.int .i64 x]):
 Calls Tryz.prog 138 #[rteV o,.pointer (some ⟨b,0,none⟩)] w (fun e w'=>e=.returned (.bool (o.rt.drv==x))∧Below w.heap.size w w'):=by
 have h1:=hb.below ((Below.refl _ _).alloc (Nat.le_refl _) (.cells #[.int .i64 o.rt.drv,.int .i64 o.rt.served,.slice o.a o.n o.c] 37)) hb.lt;have c0:=h1.cell (i:=0) rfl;clear h1 hb;go_enter Tryz.func138,Tryz.ntmps138;go_wp2
 go_ret;exact⟨rfl,(Below.refl _ _).alloc (Nat.le_refl _) _⟩
theorem n_0(A:Option Addr)(n c:Nat)(l:List RM)(b:Nat)(x:Int)(w:World)(hl:Plns w w.heap.size A n l)(hb:Blk w b 3 [.int .i64 x]):
 Calls Tryz.prog 193 #[.slice A n c,.func (.func 138) #[] #[.pointer (some ⟨b,0,none⟩)]] w (fun e w'=>e=.returned (.int .i64 (e_g l x 0))∧Below w.heap.size w w'):=by
 have hm:=Recs.le hl.rows;have HI:=Lib.hid hl;have HL:=Lib.hid hl.length;have HBX:=Lib.hid hb;clear hl hb;go_enter Tryz.func193,Tryz.ntmps193;go_wp2_with fail
 go_loopw [8] (fun iv wr=>∃k:Nat,k≤n∧iv=.int .i64 k∧Hid (Below w.heap.size w wr)∧Hid (e_g (l.drop k) x k=e_g l x 0)) (fun iv _=>n-(intOf iv).toNat)
 case atStart=>exact⟨0,Nat.zero_le _,rfl,Below.refl _ _,Lib.hid rfl⟩
 case round=>
  obtain⟨k,hk,rfl,HB,HK⟩:=hrel;by_cases hlt:k<n
  ·obtain⟨bb,off,o,rfl,hbb,ho,hdr,c0,c1,c2,hst,hxc⟩:=(HI.out.keep HB.out).at_ hlt
   have HK1:=HK.out;rw[hdr,m_c]at HK1;have HBW:Hid (Blk wr b 3 [.int .i64 x]):=HBX.out.below HB.out HBX.out.lt;have HC:=Lib.hid (n_Z o b x);by_cases hid:o.rt.drv=x
   ·rw[if_pos hid]at HK1
    have HF:=Lib.hid HK1;have e1:(o.rt.drv==x)=true:=by simpa using hid
    rw[e1]at HC;clear hid HK HK1 ho hdr hst;go_wp2_with fail
    refine(HC.out _ (by exact HBW.out)).mono ?_;rintro e w' ⟨rfl,hb2⟩;have HB2:=Lib.hid (HB.out.trans (hb2.mono HB.out.size));clear hb2 c0 c1 c2;go_wp2_with fail
    go_ret;exact⟨a_5 (by rw[HF.out]),HB2.out⟩
   ·rw[if_neg hid]at HK1
    have HF:=Lib.hid HK1;have e1:(o.rt.drv==x)=false:=by simpa using hid
    rw[e1]at HC;clear hid HK HK1 ho hdr hst;go_wp2_with fail
    refine(HC.out _ (by exact HBW.out)).mono ?_;rintro e w' ⟨rfl,hb2⟩;have HB2:=Lib.hid (HB.out.trans (hb2.mono HB.out.size));clear hb2 c0 c1 c2;go_wp2_with fail
    go_roundw
    case rel=>exact⟨k+1,by omega,by go_num,HB2,HF⟩
    case measure=>simp[intOf];omega
  ·have HF:Hid (-1=e_g l x 0):=by
    have h:=HK.out;rw[List.drop_of_length_le (by have:=HL.out;omega)]at h;exact h
   clear HK;go_wp2_with fail
   go_ret;exact⟨a_5 (by rw[← HF.out]),HB.out⟩
theorem j_Y(A:Option Addr)(n c:Nat)(l:List RM)(b:Nat)(id:Int)(r:Option RM)(w:World)(hl:Plns w w.heap.size A n l)(hb:Blk w b 3 [.int .i64 id])(hr:rmOf l id=r):
 Calls Tryz.prog 137 #[.slice A n c,.func (.func 138) #[] #[.pointer (some ⟨b,0,none⟩)]] w fun e w'=>e=.returned (rmOV r)∧Below w.heap.size w w':=by
 have hm:=Recs.le hl.rows;have HI:=Lib.hid hl;have HR:=Lib.hid hr;have hlen:=hl.length;have hcase:=q_t l id;rw[hr]at hcase;obtain⟨iv,hiv⟩:∃v,e_g l id 0=v:=⟨_,rfl⟩;rw[hiv]at hcase;have HIV:=Lib.hid hiv;have HB0:Hid (Below w.heap.size w (w.alloc (.cells #[.int .i64 0,.int .i64 0,.slice none 0 0] 37))):=(Below.refl _ _).alloc (Nat.le_refl _) _;have HX0:Hid (Blk (w.alloc (.cells #[.int .i64 0,.int .i64 0,.slice none 0 0] 37)) b 3 [.int .i64 id]):=hb.below HB0.out hb.lt;have HY0:Hid (Blk (w.alloc (.cells #[.int .i64 0,.int .i64 0,.slice none 0 0] 37)) w.heap.size 37 [.int .i64 0,.int .i64 0,.slice none 0 0]):=Blk.new w 37 [.int .i64 0,.int .i64 0,.slice none 0 0];clear hl hr hiv hb;go_enter Tryz.func137,Tryz.ntmps137;go_wp2_with fail
 refine(n_0 A n c l b id _ (by exact(HI.out.keep HB0.out).more HB0.out.size) (by exact HX0.out)).mono ?_;rintro e w1 ⟨rfl,hb⟩;rw[HIV.out];have HB1:=Lib.hid (HB0.out.trans (hb.mono HB0.out.size));have HY1:Hid (Blk w1 w.heap.size 37 [.int .i64 0,.int .i64 0,.slice none 0 0]):=HY0.out.below hb HY0.out.lt;clear hb HB0 HX0 HY0 HIV;have hcs:=a_c w.heap.size;have hfs:=a_d;rcases hcase with⟨rfl,rfl⟩|⟨i,d,hi,rfl,rfl⟩
 ·have HB2:Hid (Below w.heap.size w (w1.alloc (.cells #[.int .i64 0,.int .i64 0,.slice none 0 0] 37))):=HB1.out.alloc HB1.out.size _
  have HY2:Hid (Blk (w1.alloc (.cells #[.int .i64 0,.int .i64 0,.slice none 0 0] 37)) w.heap.size 37 [.int .i64 0,.int .i64 0,.slice none 0 0]):=HY1.out.below ((Below.refl _ _).alloc (Nat.le_refl _) _) HY1.out.lt;have hff:=HY2.out.free;have x0:=HY2.out.cell (i:=0) rfl;have x1:=HY2.out.cell (i:=1) rfl;have x2:=HY2.out.cell (i:=2) rfl;have HRS:=Lib.hid (f_v HY2.out noRM).cells;have HBR:=Lib.hid (d_I HB2.out (Nat.le_refl w.heap.size) noRM);go_wp2_with fail
  refine bodyPost_ret (v:=.tuple #[rteV noRM,.bool false]) ?_ rfl ⟨rfl,HBR.out⟩;obtain⟨r0,r1,r2⟩:=HRS.out;simp[results,Tryz.results137,go_sem,r0,r1,r2]
 ·obtain⟨bb,off,d2,rfl,hbb,hd2,hdr,c0,c1,c2,hst,hxc⟩:=(HI.out.keep HB1.out).at_ (i:=i) (by have:=(List.getElem?_eq_some_iff.1 hi).1;omega)
  have hin:(i:Int)<(n:Int):=by have:=(List.getElem?_eq_some_iff.1 hi).1;omega
  rw[hi]at hd2;injection hd2 with hd2;subst hd2;have hff:=HY1.out.free;have x0:=HY1.out.cell (i:=0) rfl;have x1:=HY1.out.cell (i:=1) rfl;have x2:=HY1.out.cell (i:=2) rfl;have HRS:=Lib.hid (f_v HY1.out d).cells;have HBR:=Lib.hid (d_I HB1.out (Nat.le_refl w.heap.size) d);clear hdr hi hst;go_wp2_with fail
  refine bodyPost_ret (v:=.tuple #[rteV d,.bool true]) ?_ rfl ⟨rfl,HBR.out⟩;obtain⟨r0,r1,r2⟩:=HRS.out;simp[results,Tryz.results137,go_sem,r0,r1,r2]
theorem g_6(A:Option Addr)(n c:Nat)(l:List RM)(id:Int)(r:Option RM)(w:World)(hl:Plns w w.heap.size A n l)(hr:rmOf l id=r):
 Calls Tryz.prog 75 #[.slice A n c,.int .i64 id] w fun e w'=>e=.returned (rmOV r)∧Below w.heap.size w w':=by
 have HI:=Lib.hid hl;have HR:=Lib.hid hr;have HB0:Hid (Below w.heap.size w ((w.alloc (.cells #[.int .i64 id] 3)).alloc (.cells #[.int .i64 0,.int .i64 0,.slice none 0 0] 37))):=((Below.refl _ _).alloc (Nat.le_refl _) _).alloc (by simp) _;have HX0:Hid (Blk ((w.alloc (.cells #[.int .i64 id] 3)).alloc (.cells #[.int .i64 0,.int .i64 0,.slice none 0 0] 37)) w.heap.size 3 [.int .i64 id]):=Blk.below (Blk.new w 3 [.int .i64 id]) ((Below.refl _ _).alloc (Nat.le_refl _) _) (Blk.new w 3 [.int .i64 id]).lt
 have HY0:Hid (Blk ((w.alloc (.cells #[.int .i64 id] 3)).alloc (.cells #[.int .i64 0,.int .i64 0,.slice none 0 0] 37)) (w.heap.size+1) 37 [.int .i64 0,.int .i64 0,.slice none 0 0]):=by
  have h1:=Blk.new (w.alloc (.cells #[.int .i64 id] 3)) 37 [.int .i64 0,.int .i64 0,.slice none 0 0];rw[World.size_alloc]at h1;exact h1
 clear hl hr;go_enter Tryz.func75,Tryz.ntmps75;have hmf:∀(fn:Fn) (first cap:Array Value) (w:World),(Instr.makeFunc fn first cap).run Tryz.prog w=.ok (.func fn first cap) w:=fun _ _ _ _=>rfl;go_wp2_with fail
 refine(j_Y A n c l w.heap.size id r _ (by exact(HI.out.keep HB0.out).more HB0.out.size) (by exact HX0.out) HR.out).mono ?_;rintro e w1 ⟨rfl,hb⟩;have HB1:=Lib.hid (HB0.out.trans (hb.mono HB0.out.size));have HY1:Hid (Blk w1 (w.heap.size+1) 37 [.int .i64 0,.int .i64 0,.slice none 0 0]):=HY0.out.below hb HY0.out.lt;clear hb HB0 HX0 HY0 hmf;have hcs:=a_c (w.heap.size+1);have hfs:=a_d;have hff:=HY1.out.free;have x0:=HY1.out.cell (i:=0) rfl;have x1:=HY1.out.cell (i:=1) rfl;have x2:=HY1.out.cell (i:=2) rfl;cases r with
 |none=>
  have hv:rmOV none=.tuple #[rteV noRM,.bool false]:=rfl;rw[hv];clear hv;have HRS:=Lib.hid (f_v HY1.out noRM).cells;have HBR:=Lib.hid (d_I HB1.out (Nat.le_succ w.heap.size) noRM);go_wp2_with fail
  refine bodyPost_ret (v:=.tuple #[rteV noRM,.bool false]) ?_ rfl ⟨rfl,HBR.out⟩;obtain⟨r0,r1,r2⟩:=HRS.out;simp[results,Tryz.results75,go_sem,r0,r1,r2]
 |some d=>
  have hv:rmOV (some d)=.tuple #[rteV d,.bool true]:=rfl;rw[hv];clear hv;have HRS:=Lib.hid (f_v HY1.out d).cells;have HBR:=Lib.hid (d_I HB1.out (Nat.le_succ w.heap.size) d);go_wp2_with fail
  refine bodyPost_ret (v:=.tuple #[rteV d,.bool true]) ?_ rfl ⟨rfl,HBR.out⟩;obtain⟨r0,r1,r2⟩:=HRS.out;simp[results,Tryz.results75,go_sem,r0,r1,r2]
theorem f_w(l:List RM)(d:Int):b_V (l.map (·.rt)) d=(rmOf l d).map (·.rt):=by
 unfold b_V rmOf;rw[List.find?_map];rfl
structure RmF(l:List RM)(d:Int)(b:RM)(ok:Bool)(k:Nat):Prop where
 val:rmOV (rmOf l d)=.tuple #[rteV b,.bool ok]
 is:(b_V (l.map (·.rt)) d).isSome=ok
 done:b.rt.served=(k:Int)
 len:k≤b.n
 cap:b.n≤b.c
 list:s_9 (b_V (l.map (·.rt)) d)=b.rt.stops.take k
 reads:∀(u:World) (B:Nat) (A:Option Addr) (n:Nat),Plns u B A n l→Stps u B b.a b.n b.rt.stops
theorem n_1{w:World}{B n:Nat}{A:Option Addr}{l:List RM}(d:Int)(hl:Plns w B A n l)(hr:a_h (l.map (·.rt))=true):∃b ok k,RmF l d b ok k:=by
 cases h:rmOf l d with
 |none=>exact⟨noRM,false,0,by rw[h];rfl,by rw[f_w,h];rfl,rfl,Nat.le_refl _,Nat.le_refl _,by rw[f_w,h];rfl,fun u B A n _=>⟨rfl,Nat.zero_le _,fun h=>absurd h (by decide)⟩⟩
 |some b=>
  have hb:b∈l:=List.mem_of_find?_eq_some h;obtain⟨k,h1,h2⟩:=e_L hr (List.mem_map.2 ⟨b,hb,rfl⟩);obtain⟨h3,h4,_⟩:=hl.each b hb;have h5:=h3.length;refine⟨b,true,k,by rw[h];rfl,by rw[f_w,h];rfl,h1,by omega,h4,?_,fun u B A n hp=>(hp.each b hb).1⟩;rw[f_w,h];show b_G b.rt=_;unfold b_G;rw[h1];simp
theorem e_6{u:World}{g:Nat}{x:RM}(h:RBox u g x):(Instr.loadAt 37 (.pointer (some ⟨g,0,none⟩))).run Tryz.prog u=.ok (rteV x) u:=by
 obtain⟨h0,h1,h2⟩:=RBox.cells (x:=x) h;simp[go_sem,h0,h1,h2]
theorem l_v(A:Option Addr)(n c:Nat)(l:List RM)(b:Bool)(w:World)(hl:Plns w w.heap.size A n l)(hb:a_h (l.map (·.rt))=b):
 Calls Tryz.prog 74 #[.slice A n c] w (a_y w (.bool b)):=by
 rw[← hb];exact pright_any A n c l w hl
theorem i_y(A:Option Addr)(n c:Nat)(la:List RM)(A2:Option Addr)(n2 c2:Nat)(lb:List RM)(res:Bool)(w:World)(hnc:n≤c)(hnc2:n2≤c2)(ha:Plns w w.heap.size A n la)(hb:Plns w w.heap.size A2 n2 lb)(hres:b_S (la.map (·.rt)) (lb.map (·.rt))=res):
 Calls Tryz.prog 30 #[.slice A n c,.slice A2 n2 c2] w (a_y w (.bool res)):=by
 have hm:=Recs.le ha.rows;have hm2:=Recs.le hb.rows;have HA:=Lib.hid ha;have HB:=Lib.hid hb;have HLA:=Lib.hid ha.length;have HLB:=Lib.hid hb.length;obtain⟨pa,hpa⟩:∃p,la.map (·.rt)=p:=⟨_,rfl⟩;obtain⟨pb,hpb⟩:∃p,lb.map (·.rt)=p:=⟨_,rfl⟩;rw[hpa,hpb]at hres;have HPA:=Lib.hid hpa;have HPB:=Lib.hid hpb;have HRES:=Lib.hid hres;obtain⟨r1,hr1⟩:∃r,a_h pa=r:=⟨_,rfl⟩;obtain⟨r2,hr2⟩:∃r,a_h pb=r:=⟨_,rfl⟩;have R1:=Lib.hid hr1;have R2:=Lib.hid hr2;clear ha hb hpa hpb hres hr1 hr2;go_enter Tryz.func30,Tryz.ntmps30;go_wp2_with fail
 refine(l_v A n c la r1 _ (by exact HA.out) (by rw[HPA.out];exact R1.out)).mono ?_;rintro e w1 ⟨rfl,hb1⟩;have HB1:=Lib.hid hb1;clear hb1;cases r1 with
 |false=>
  have e:res=false:=by rw[← HRES.out];exact h_L fun h=>by have:=h.1;rw[R1.out]at this;cases this
  subst e;go_wp2_with fail
  go_ret;exact⟨rfl,HB1.out⟩
 |true=>
  go_wp2_with fail
  refine(l_v A2 n2 c2 lb r2 _ (by exact(HB.out.keep HB1.out).more HB1.out.size) (by rw[HPB.out];exact R2.out)).mono ?_;rintro e w2 ⟨rfl,hb2⟩;have HB2:Hid (Below w.heap.size w w2):=HB1.out.trans (hb2.mono HB1.out.size);clear hb2 HB1;cases r2 with
  |false=>
   have e:res=false:=by rw[← HRES.out];exact h_L fun h=>by have:=h.2.1;rw[R2.out]at this;cases this
   subst e;go_wp2_with fail
   go_ret;exact⟨rfl,HB2.out⟩
  |true=>
   go_wp2_with fail
   go_loopw [23] (fun i wr=>∃k:Nat,k≤n∧i=.int .i64 k∧Hid (Below w.heap.size w wr)∧Hid (∀ j x,j<k→pa[j]?=some x→(b_V pb x.drv).isSome=true)) (fun i _=>n-(intOf i).toNat)
   case atStart=>exact⟨0,Nat.zero_le _,rfl,HB2,Lib.hid (fun j x hj=>absurd hj (by omega))⟩
   case round=>
    clear HB2;obtain⟨k,hk,rfl,HW,HK⟩:=hrel;by_cases hlt:k<n
    ·obtain⟨b,off,x,hA,hbb,hx,hdr,c0,c1,c2',hst,hxc⟩:=(HA.out.keep HW.out).at_ hlt
     have hxp:pa[k]?=some x.rt:=by rw[← HPA.out,List.getElem?_map,hx];rfl
     have HXP:=Lib.hid hxp;obtain⟨y,ok,ky,hf⟩:=n_1 x.rt.drv HB.out (by rw[HPB.out];exact R2.out);have hval:=hf.val;have his:=hf.is;rw[HPB.out]at his;have HIS:=Lib.hid his;have HVAL:=Lib.hid hval;have hz1:Below wr.heap.size wr (wr.alloc (.cells #[.int .i64 x.rt.drv,.int .i64 x.rt.served,.slice x.a x.n x.c] 37)):=(Below.refl _ _).alloc (Nat.le_refl _) _;have HW1:=Lib.hid (HW.out.trans (hz1.mono HW.out.size));subst hA;clear hx hdr hxp hf hval his hz1 hst;go_wp2_with fail
     refine(g_6 A2 n2 c2 lb x.rt.drv _ _ (by exact(HB.out.keep HW1.out).more HW1.out.size) rfl).mono ?_;rintro e w3 ⟨rfl,hb3⟩;rw[HVAL.out];have HW3:=Lib.hid (HW1.out.trans (hb3.mono HW1.out.size));have HW4:=Lib.hid (HW3.out.alloc HW3.out.size (.cells #[.int .i64 y.rt.drv,.int .i64 y.rt.served,.slice y.a y.n y.c] 37));clear hb3 HVAL HW1 HW c0 c1 c2';cases ok with
     |false=>
      have e:res=false:=by
       rw[← HRES.out];refine h_L fun h=>?_;have:=h.2.2.1 _ (List.mem_of_getElem? HXP.out);rw[HIS.out]at this;cases this
      subst e;clear HK HIS;go_wp2_with fail
      go_ret;exact⟨rfl,HW4.out⟩
     |true=>
      have HN:Hid (∀ j x,j<k+1→pa[j]?=some x→(b_V pb x.drv).isSome=true):=fun j z hj hz=>by
       by_cases e:j=k
       ·subst e
        rw[HXP.out]at hz;injection hz with hz;rw[← hz,HIS.out]
       ·exact HK.out j z (by omega) hz
      clear HK HIS;go_wp2_with fail
      go_roundw
      case rel=>exact⟨k+1,by omega,by go_num,HW4,HN⟩
      case measure=>simp[intOf];omega
    ·have HALL:Hid (∀ r∈pa,(b_V pb r.drv).isSome=true):=fun r hr=>by
      obtain⟨j,hj⟩:=List.mem_iff_getElem?.1 hr;have h1:=(List.getElem?_eq_some_iff.1 hj).1;have h2:pa.length=n:=by rw[← HPA.out,List.length_map,HLA.out]
      exact HK.out j r (by omega) hj
     clear HK;go_wp2_with fail
     go_loopw [39] (fun i wz=>∃k:Nat,k≤n2∧i=.int .i64 k∧Hid (Below w.heap.size w wz)∧Hid (∀ j x,j<k→pb[j]?=some x→c_R pa x)) (fun i _=>n2-(intOf i).toNat)
     case atStart=>exact⟨0,Nat.zero_le _,rfl,HW,Lib.hid (fun j x hj=>absurd hj (by omega))⟩
     case round=>
      clear HW hlt hk;obtain⟨k,hk,rfl,HW,HK⟩:=hrel;by_cases hlt:k<n2
      case neg=>
       have e:res=true:=by
        rw[← HRES.out];refine keptP_iff.2 ⟨R1.out,R2.out,HALL.out,fun q hq=>?_⟩;obtain⟨j,hj⟩:=List.mem_iff_getElem?.1 hq;have h1:=(List.getElem?_eq_some_iff.1 hj).1;have h2:pb.length=n2:=by rw[← HPB.out,List.length_map,HLB.out]
        exact HK.out j q (by omega) hj
       subst e;clear HK HALL;go_wp2_with fail
       go_ret;exact⟨rfl,HW.out⟩
      obtain⟨b,off,x,hA,hbb,hx,hdr,c0,c1,c2',hst,hxc⟩:=(HB.out.keep HW.out).at_ hlt;have hxp:pb[k]?=some x.rt:=by rw[← HPB.out,List.getElem?_map,hx];rfl
      have HXP:=Lib.hid hxp;have HXX:=Lib.hid hx;obtain⟨kx,hkx,hkl⟩:=e_L (p:=pb) R2.out (List.mem_of_getElem? hxp);have hxl:kx≤x.n:=by have:=hst.length;omega
      have hxm:x.n≤9223372036854775807:=Recs.le hst;obtain⟨y,ok,ky,hf⟩:=n_1 x.rt.drv HA.out (by rw[HPA.out];exact R1.out);have hym:y.n≤9223372036854775807:=Recs.le (hf.reads _ _ _ _ HA.out);have HF:=Lib.hid hf;obtain⟨t,ht⟩:∃t,decide (y.rt.stops.take ky=x.rt.stops.take kx)=t:=⟨_,rfl⟩
      have HT:Hid (t=true↔c_R pa x.rt):=by
       show _↔_;have h1:=m_j (a:=pa) (q:=x.rt) R1.out ⟨kx,hkx,hkl⟩;have h2:=hf.list;rw[HPA.out]at h2;have h3:b_G x.rt=x.rt.stops.take kx:=by unfold b_G;rw[hkx];simp
       rw[h1,h2,h3,←ht,decide_eq_true_eq]
      have HTV:=Lib.hid ht;have HKX:=Lib.hid hkx;have hz1:Below wr.heap.size wr (wr.alloc (.cells #[.int .i64 x.rt.drv,.int .i64 x.rt.served,.slice x.a x.n x.c] 37)):=(Below.refl _ _).alloc (Nat.le_refl _) _;have HW1:=Lib.hid (HW.out.trans (hz1.mono HW.out.size));have HR1:Hid (RBox (wr.alloc (.cells #[.int .i64 x.rt.drv,.int .i64 x.rt.served,.slice x.a x.n x.c] 37)) wr.heap.size x):=Blk.new wr _ _;subst hA;clear hx hdr hxp hf hz1 hst ht hkx hkl;go_wp2_with fail
      refine(g_6 A n c la x.rt.drv _ _ (by exact(HA.out.keep HW1.out).more HW1.out.size) rfl).mono ?_;rintro e w3 ⟨rfl,hb3⟩;rw[HF.out.val];have HW3:=Lib.hid (HW1.out.trans (hb3.mono HW1.out.size));have HR3:=Lib.hid (RBox.below (x:=x) HR1.out hb3);have HW4:=Lib.hid (HW3.out.alloc HW3.out.size (.cells #[.int .i64 y.rt.drv,.int .i64 y.rt.served,.slice y.a y.n y.c] 37));have HR4:Hid (RBox (w3.alloc (.cells #[.int .i64 y.rt.drv,.int .i64 y.rt.served,.slice y.a y.n y.c] 37)) wr.heap.size x):=RBox.below (x:=x) HR3.out ((Below.refl _ _).alloc (Nat.le_refl _) _);have HY4:Hid (RBox (w3.alloc (.cells #[.int .i64 y.rt.drv,.int .i64 y.rt.served,.slice y.a y.n y.c] 37)) w3.heap.size y):=Blk.new w3 _ _;clear hb3 HW1 HW3 HR1 HR3 HW c0 c1 c2';go_upto_region 14 with fail
      obtain⟨gx,hgx⟩:∃g,wr.heap.size=g:=⟨_,rfl⟩;obtain⟨gy,hgy⟩:∃g,w3.heap.size=g:=⟨_,rfl⟩;obtain⟨w4,hw4⟩:∃u,w3.alloc (.cells #[.int .i64 y.rt.drv,.int .i64 y.rt.served,.slice y.a y.n y.c] 37)=u:=⟨_,rfl⟩;rw[hgx]at HR4;rw[hgy]at HY4;rw[hw4]at HW4 HR4 HY4
      (try rw[hgx])
      (try rw[hgy])
      (try rw[hw4])
      clear hgx hgy hw4;go_cut [55] (fun bv wx=>bv=.bool (!t)∧Hid (Below w4.heap.size w4 wx))
      case first=>
       have HDY:Hid (∀ u,Calls Tryz.prog 77 #[rteV y] u fun e u'=>e=.returned (.slice y.a ky y.c)∧Below u.heap.size u u'):=fun u=>g_5 y ky u HF.out.done HF.out.len HF.out.cap hym;have HDX:Hid (∀ u,Calls Tryz.prog 77 #[rteV x] u fun e u'=>e=.returned (.slice x.a kx x.c)∧Below u.heap.size u u'):=fun u=>g_5 x kx u HKX.out hxl hxc hxm
       have HEQ:Hid (∀ u,Below w4.heap.size w4 u→Calls Tryz.prog 76 #[.slice y.a ky y.c,.slice x.a kx x.c] u fun e u'=>e=.returned (.bool t)∧Below u.heap.size u u'):=fun u hu=>by
        have h0:=HW4.out.trans (hu.mono HW4.out.size);exact m_a y.a ky y.c (y.rt.stops.take ky) x.a kx x.c (x.rt.stops.take kx) t u (c_W (Recs.more (HF.out.reads _ _ _ _ (HA.out.keep h0)) h0.size) HF.out.len) (c_W (Recs.more ((HB.out.keep h0).each x (List.mem_of_getElem? HXX.out)).1 h0.size) hxl) HTV.out
       refine a_s (valRF [50,51,52,53,54,55] [rteV y,.slice y.a ky y.c,rteV x,.slice x.a kx x.c,.bool t,.bool (!t)]) (by kernel_rfl) (by kernel_rfl) (by kernel_rfl) (fun _ _=>rfl) (by kernel_rfl) valRF.mon ?_ ?_
       ·refine⟨?_,?_,?_,?_,?_,?_,trivial⟩
        ·exact valRF.pureStep rfl 50 rfl rfl (by simp) _ rfl fun listed a u D hI hr hn=>a_f rfl (hI.out 11 (by kernel_rfl)) (e_6 (RBox.below (x:=y) HY4.out (OneR.below_drew hI.old)))
        ·exact valRF.callStep rfl 51 rfl rfl (by simp) _ rfl fun listed a u D hI hr hn=>⟨_,_,c_m rfl (valRF.val hI hr hn 0 (by kernel_rfl) rfl rfl) (by simp[go_sem]),HDY.out _⟩
        ·exact valRF.pureStep rfl 52 rfl rfl (by simp) _ rfl fun listed a u D hI hr hn=>a_f rfl (hI.out 10 (by kernel_rfl)) (e_6 (RBox.below (x:=x) HR4.out (OneR.below_drew hI.old)))
        ·exact valRF.callStep rfl 53 rfl rfl (by simp) _ rfl fun listed a u D hI hr hn=>⟨_,_,c_m rfl (valRF.val hI hr hn 2 (by kernel_rfl) rfl rfl) (by simp[go_sem]),HDX.out _⟩
        ·exact valRF.callStep rfl 54 rfl rfl (by simp) _ rfl fun listed a u D hI hr hn=>⟨_,_,b_5 rfl (valRF.val hI hr hn 1 (by kernel_rfl) rfl rfl) (valRF.val hI hr hn 3 (by kernel_rfl) rfl rfl) (by simp[go_sem]),HEQ.out _ (OneR.below_drew hI.old)⟩
        ·exact valRF.pureStep rfl 55 rfl rfl (by simp) _ rfl fun listed a u D hI hr hn=>f_u rfl (valRF.val hI hr hn 4 (by kernel_rfl) rfl rfl)
       ·intro listed a u D hI hall
        have eR0:a.tmps.getD 55 undef=.bool (!t):=(hI.fact 5 ⟨hall 5 (by simp),fun k hk=>by cases hk⟩).1;have hold:=OneR.below_drew hI.old;have hl:=hI.fill [50,51,52,53,54,55] (by kernel_rfl);clear hI hall;obtain⟨σ,hσ⟩:∃σ:Nat→Value,∀t,a.tmps.getD t undef=σ t:=⟨_,fun _=>rfl⟩;simp only[hσ]at hl eR0;clear hσ;simp only[List.foldl_cons,List.foldl_nil,List.setIfInBounds_toArray,List.set_cons_zero,List.set_cons_succ,eR0]at hl;subst hl;go_wp2_with fail
        go_meet
        exact⟨rfl,hold⟩
      case rest=>
      obtain⟨rfl,hb5⟩:=hcut;obtain⟨w5,rfl⟩:∃u,u=wc:=⟨_,rfl⟩;have HW5:=Lib.hid (HW4.out.trans (hb5.out.mono HW4.out.size));clear hb5 HW4 HR4 HY4 HTV;cases t with
      |false=>
       have e:res=false:=by
        rw[← HRES.out];refine h_L fun h=>?_;have:=HT.out.2 (h.2.2.2 _ (List.mem_of_getElem? HXP.out));cases this
       subst e;clear HK HT;go_wp2_with fail
       go_ret;exact⟨rfl,HW5.out⟩
      |true=>
       have HN:Hid (∀ j x,j<k+1→pb[j]?=some x→c_R pa x):=fun j z hj hz=>by
        by_cases e:j=k
        ·subst e
         rw[HXP.out]at hz;injection hz with hz;rw[← hz];exact HT.out.1 rfl
        ·exact HK.out j z (by omega) hz
       clear HK HT;go_wp2_with fail
       go_roundw
       case rel=>exact⟨k+1,by omega,by go_num,HW5,HN⟩
       case measure=>simp[intOf];omega
end Audit
end Go.Proofs.YtkpnmpjnpcjohaaGreat
