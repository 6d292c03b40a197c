import Derived.Test.YtkpnmpjnpcjohaaGreatLibRows
import Derived.Test.YtkpnmpjnpcjohaaGreatMaths
namespace Go.Proofs.YtkpnmpjnpcjohaaGreat
open ChangeShapes WideShapes ChangeAt RowKit Mem FleetMath
namespace Rec
abbrev winV(x:Win):Value:=.agg #[.int .i64 x.fr,.int .i64 x.to]
abbrev ordV(x:Ord):Value:=.agg #[.int .i64 x.id,.int .i64 x.size,.int .i64 x.pick.place,.int .i64 x.pick.win.fr,.int .i64 x.pick.win.to,.int .i64 x.pick.serv,.int .i64 x.drop.place,.int .i64 x.drop.win.fr,.int .i64 x.drop.win.to,.int .i64 x.drop.serv]
def a_g(l:List Ord):List Value:=l.flatMap fun x=>[.int .i64 x.id,.int .i64 x.size,.int .i64 x.pick.place,.int .i64 x.pick.win.fr,.int .i64 x.pick.win.to,.int .i64 x.pick.serv,.int .i64 x.drop.place,.int .i64 x.drop.win.fr,.int .i64 x.drop.win.to,.int .i64 x.drop.serv]
theorem a_U(l:List Ord):(a_g l).length=l.length*10:=by
 induction l with
 |nil=>rfl
 |cons x r ih=>simp only[a_g,List.flatMap_cons,List.length_append,List.length_cons,List.length_nil]at ih ⊢;omega
theorem a_Z(l m:List Ord):a_g (l++m)=a_g l++a_g m:=by simp[a_g]
theorem c_f(l:List Ord):∀v∈a_g l,v.oneCell'=true:=by
 intro v hv;simp only[a_g,List.mem_flatMap,List.mem_cons,List.not_mem_nil,or_false]at hv;obtain⟨x,_,hv⟩:=hv;rcases hv with rfl|rfl|rfl|rfl|rfl|rfl|rfl|rfl|rfl|rfl<;>rfl
theorem r_1{l:List Ord}{i:Nat}{x:Ord}(h:l[i]?=some x):(a_g l)[i*10+0]?=some (.int .i64 x.id)∧(a_g l)[i*10+1]?=some (.int .i64 x.size)∧(a_g l)[i*10+2]?=some (.int .i64 x.pick.place)∧(a_g l)[i*10+3]?=some (.int .i64 x.pick.win.fr)∧(a_g l)[i*10+4]?=some (.int .i64 x.pick.win.to)∧(a_g l)[i*10+5]?=some (.int .i64 x.pick.serv)∧(a_g l)[i*10+6]?=some (.int .i64 x.drop.place)∧(a_g l)[i*10+7]?=some (.int .i64 x.drop.win.fr)∧(a_g l)[i*10+8]?=some (.int .i64 x.drop.win.to)∧(a_g l)[i*10+9]?=some (.int .i64 x.drop.serv):=by
 induction l generalizing i with
 |nil=>cases h
 |cons y r ih=>
  cases i with
  |zero=>simp at h;subst h;exact⟨rfl,rfl,rfl,rfl,rfl,rfl,rfl,rfl,rfl,rfl⟩
  |succ i=>
   have:=ih (i:=i) (by simpa using h);rw[show(i+1)*10+0=(i*10+0)+10 by omega,show(i+1)*10+1=(i*10+1)+10 by omega,show(i+1)*10+2=(i*10+2)+10 by omega,show(i+1)*10+3=(i*10+3)+10 by omega,show(i+1)*10+4=(i*10+4)+10 by omega,show(i+1)*10+5=(i*10+5)+10 by omega,show(i+1)*10+6=(i*10+6)+10 by omega,show(i+1)*10+7=(i*10+7)+10 by omega,show(i+1)*10+8=(i*10+8)+10 by omega,show(i+1)*10+9=(i*10+9)+10 by omega];exact this
abbrev Ords(w:World)(B:Nat)(A:Option Addr)(n:Nat)(l:List Ord):Prop:=Recs w B A n 10 (a_g l)
theorem Ords.length{w:World}{B n:Nat}{A:Option Addr}{l:List Ord}(h:Ords w B A n l):l.length=n:=by have:=h.1;rw[a_U]at this;omega
theorem Ords.at_{w:World}{B n i:Nat}{A:Option Addr}{l:List Ord}(h:Ords w B A n l)(hi:i<n):∃b off x,A=some ⟨b,off,none⟩∧b<B∧l[i]?=some x∧l.drop i=x::l.drop (i+1)∧w.cell? ⟨b,off+i*10,none⟩=some (.int .i64 x.id)∧w.cell? ⟨b,off+i*10+1,none⟩=some (.int .i64 x.size)∧w.cell? ⟨b,off+i*10+2,none⟩=some (.int .i64 x.pick.place)∧w.cell? ⟨b,off+i*10+3,none⟩=some (.int .i64 x.pick.win.fr)∧w.cell? ⟨b,off+i*10+4,none⟩=some (.int .i64 x.pick.win.to)∧w.cell? ⟨b,off+i*10+5,none⟩=some (.int .i64 x.pick.serv)∧w.cell? ⟨b,off+i*10+6,none⟩=some (.int .i64 x.drop.place)∧w.cell? ⟨b,off+i*10+7,none⟩=some (.int .i64 x.drop.win.fr)∧w.cell? ⟨b,off+i*10+8,none⟩=some (.int .i64 x.drop.win.to)∧w.cell? ⟨b,off+i*10+9,none⟩=some (.int .i64 x.drop.serv):=by
 obtain⟨b,off,e,hb,hc⟩:=Recs.at_ h hi;have hlt:i<l.length:=by rw[h.length];exact hi
 have hx:=List.getElem?_eq_getElem hlt;obtain⟨h0,h1,h2,h3,h4,h5,h6,h7,h8,h9⟩:=r_1 hx;exact⟨b,off,_,e,hb,hx,List.drop_eq_getElem_cons hlt,hc 0 _ h0,hc 1 _ h1,hc 2 _ h2,hc 3 _ h3,hc 4 _ h4,hc 5 _ h5,hc 6 _ h6,hc 7 _ h7,hc 8 _ h8,hc 9 _ h9⟩
theorem b_R:(Tryz.prog.info? 31).map (fun i=>(i.zero,i.size,i.bytes))=some (some (.agg #[.int .i64 0,.int .i64 0,.int .i64 0,.int .i64 0,.int .i64 0,.int .i64 0,.int .i64 0,.int .i64 0,.int .i64 0,.int .i64 0]),10,80):=by kernel_rfl
abbrev drvV(x:Drv):Value:=.agg #[.int .i64 x.id,.int .i64 x.room,.int .i64 x.home,.int .i64 x.win.fr,.int .i64 x.win.to,.bool x.retired]
def a_0(l:List Drv):List Value:=l.flatMap fun x=>[.int .i64 x.id,.int .i64 x.room,.int .i64 x.home,.int .i64 x.win.fr,.int .i64 x.win.to,.bool x.retired]
theorem d_H(l:List Drv):(a_0 l).length=l.length*6:=by
 induction l with
 |nil=>rfl
 |cons x r ih=>simp only[a_0,List.flatMap_cons,List.length_append,List.length_cons,List.length_nil]at ih ⊢;omega
theorem j_S(l m:List Drv):a_0 (l++m)=a_0 l++a_0 m:=by simp[a_0]
theorem g_F(l:List Drv):∀v∈a_0 l,v.oneCell'=true:=by
 intro v hv;simp only[a_0,List.mem_flatMap,List.mem_cons,List.not_mem_nil,or_false]at hv;obtain⟨x,_,hv⟩:=hv;rcases hv with rfl|rfl|rfl|rfl|rfl|rfl<;>rfl
theorem r_2{l:List Drv}{i:Nat}{x:Drv}(h:l[i]?=some x):(a_0 l)[i*6+0]?=some (.int .i64 x.id)∧(a_0 l)[i*6+1]?=some (.int .i64 x.room)∧(a_0 l)[i*6+2]?=some (.int .i64 x.home)∧(a_0 l)[i*6+3]?=some (.int .i64 x.win.fr)∧(a_0 l)[i*6+4]?=some (.int .i64 x.win.to)∧(a_0 l)[i*6+5]?=some (.bool x.retired):=by
 induction l generalizing i with
 |nil=>cases h
 |cons y r ih=>
  cases i with
  |zero=>simp at h;subst h;exact⟨rfl,rfl,rfl,rfl,rfl,rfl⟩
  |succ i=>
   have:=ih (i:=i) (by simpa using h);rw[show(i+1)*6+0=(i*6+0)+6 by omega,show(i+1)*6+1=(i*6+1)+6 by omega,show(i+1)*6+2=(i*6+2)+6 by omega,show(i+1)*6+3=(i*6+3)+6 by omega,show(i+1)*6+4=(i*6+4)+6 by omega,show(i+1)*6+5=(i*6+5)+6 by omega];exact this
abbrev Drvs(w:World)(B:Nat)(A:Option Addr)(n:Nat)(l:List Drv):Prop:=Recs w B A n 6 (a_0 l)
theorem Drvs.length{w:World}{B n:Nat}{A:Option Addr}{l:List Drv}(h:Drvs w B A n l):l.length=n:=by have:=h.1;rw[d_H]at this;omega
theorem Drvs.at_{w:World}{B n i:Nat}{A:Option Addr}{l:List Drv}(h:Drvs w B A n l)(hi:i<n):∃b off x,A=some ⟨b,off,none⟩∧b<B∧l[i]?=some x∧l.drop i=x::l.drop (i+1)∧w.cell? ⟨b,off+i*6,none⟩=some (.int .i64 x.id)∧w.cell? ⟨b,off+i*6+1,none⟩=some (.int .i64 x.room)∧w.cell? ⟨b,off+i*6+2,none⟩=some (.int .i64 x.home)∧w.cell? ⟨b,off+i*6+3,none⟩=some (.int .i64 x.win.fr)∧w.cell? ⟨b,off+i*6+4,none⟩=some (.int .i64 x.win.to)∧w.cell? ⟨b,off+i*6+5,none⟩=some (.bool x.retired):=by
 obtain⟨b,off,e,hb,hc⟩:=Recs.at_ h hi;have hlt:i<l.length:=by rw[h.length];exact hi
 have hx:=List.getElem?_eq_getElem hlt;obtain⟨h0,h1,h2,h3,h4,h5⟩:=r_2 hx;exact⟨b,off,_,e,hb,hx,List.drop_eq_getElem_cons hlt,hc 0 _ h0,hc 1 _ h1,hc 2 _ h2,hc 3 _ h3,hc 4 _ h4,hc 5 _ h5⟩
theorem e_3:(Tryz.prog.info? 33).map (fun i=>(i.zero,i.size,i.bytes))=some (some (.agg #[.int .i64 0,.int .i64 0,.int .i64 0,.int .i64 0,.int .i64 0,.bool false]),6,48):=by kernel_rfl
abbrev stpV(x:Stp):Value:=.agg #[.int .i64 x.ord,.bool x.drop]
def a_D(l:List Stp):List Value:=l.flatMap fun x=>[.int .i64 x.ord,.bool x.drop]
theorem j_T(l:List Stp):(a_D l).length=l.length*2:=by
 induction l with
 |nil=>rfl
 |cons x r ih=>simp only[a_D,List.flatMap_cons,List.length_append,List.length_cons,List.length_nil]at ih ⊢;omega
theorem f_q(l m:List Stp):a_D (l++m)=a_D l++a_D m:=by simp[a_D]
theorem g_G(l:List Stp):∀v∈a_D l,v.oneCell'=true:=by
 intro v hv;simp only[a_D,List.mem_flatMap,List.mem_cons,List.not_mem_nil,or_false]at hv;obtain⟨x,_,hv⟩:=hv;rcases hv with rfl|rfl<;>rfl
theorem r_3{l:List Stp}{i:Nat}{x:Stp}(h:l[i]?=some x):(a_D l)[i*2+0]?=some (.int .i64 x.ord)∧(a_D l)[i*2+1]?=some (.bool x.drop):=by
 induction l generalizing i with
 |nil=>cases h
 |cons y r ih=>
  cases i with
  |zero=>simp at h;subst h;exact⟨rfl,rfl⟩
  |succ i=>
   have:=ih (i:=i) (by simpa using h);rw[show(i+1)*2+0=(i*2+0)+2 by omega,show(i+1)*2+1=(i*2+1)+2 by omega];exact this
abbrev Stps(w:World)(B:Nat)(A:Option Addr)(n:Nat)(l:List Stp):Prop:=Recs w B A n 2 (a_D l)
theorem Stps.length{w:World}{B n:Nat}{A:Option Addr}{l:List Stp}(h:Stps w B A n l):l.length=n:=by have:=h.1;rw[j_T]at this;omega
theorem Stps.at_{w:World}{B n i:Nat}{A:Option Addr}{l:List Stp}(h:Stps w B A n l)(hi:i<n):∃b off x,A=some ⟨b,off,none⟩∧b<B∧l[i]?=some x∧l.drop i=x::l.drop (i+1)∧w.cell? ⟨b,off+i*2,none⟩=some (.int .i64 x.ord)∧w.cell? ⟨b,off+i*2+1,none⟩=some (.bool x.drop):=by
 obtain⟨b,off,e,hb,hc⟩:=Recs.at_ h hi;have hlt:i<l.length:=by rw[h.length];exact hi
 have hx:=List.getElem?_eq_getElem hlt;obtain⟨h0,h1⟩:=r_3 hx;exact⟨b,off,_,e,hb,hx,List.drop_eq_getElem_cons hlt,hc 0 _ h0,hc 1 _ h1⟩
theorem e_4:(Tryz.prog.info? 48).map (fun i=>(i.zero,i.size,i.bytes))=some (some (.agg #[.int .i64 0,.bool false]),2,16):=by kernel_rfl
abbrev visV(x:Vis):Value:=.agg #[.int .i64 x.stop.ord,.bool x.stop.drop,.int .i64 x.arrive,.int .i64 x.start,.int .i64 x.leave,.int .i64 x.load]
def c_p(l:List Vis):List Value:=l.flatMap fun x=>[.int .i64 x.stop.ord,.bool x.stop.drop,.int .i64 x.arrive,.int .i64 x.start,.int .i64 x.leave,.int .i64 x.load]
theorem q_r(l:List Vis):(c_p l).length=l.length*6:=by
 induction l with
 |nil=>rfl
 |cons x r ih=>simp only[c_p,List.flatMap_cons,List.length_append,List.length_cons,List.length_nil]at ih ⊢;omega
theorem j_U(l m:List Vis):c_p (l++m)=c_p l++c_p m:=by simp[c_p]
theorem r_4{l:List Vis}{i:Nat}{x:Vis}(h:l[i]?=some x):(c_p l)[i*6+0]?=some (.int .i64 x.stop.ord)∧(c_p l)[i*6+1]?=some (.bool x.stop.drop)∧(c_p l)[i*6+2]?=some (.int .i64 x.arrive)∧(c_p l)[i*6+3]?=some (.int .i64 x.start)∧(c_p l)[i*6+4]?=some (.int .i64 x.leave)∧(c_p l)[i*6+5]?=some (.int .i64 x.load):=by
 induction l generalizing i with
 |nil=>cases h
 |cons y r ih=>
  cases i with
  |zero=>simp at h;subst h;exact⟨rfl,rfl,rfl,rfl,rfl,rfl⟩
  |succ i=>
   have:=ih (i:=i) (by simpa using h);rw[show(i+1)*6+0=(i*6+0)+6 by omega,show(i+1)*6+1=(i*6+1)+6 by omega,show(i+1)*6+2=(i*6+2)+6 by omega,show(i+1)*6+3=(i*6+3)+6 by omega,show(i+1)*6+4=(i*6+4)+6 by omega,show(i+1)*6+5=(i*6+5)+6 by omega];exact this
abbrev Viss(w:World)(B:Nat)(A:Option Addr)(n:Nat)(l:List Vis):Prop:=Recs w B A n 6 (c_p l)
theorem Viss.length{w:World}{B n:Nat}{A:Option Addr}{l:List Vis}(h:Viss w B A n l):l.length=n:=by have:=h.1;rw[q_r]at this;omega
theorem Viss.at_{w:World}{B n i:Nat}{A:Option Addr}{l:List Vis}(h:Viss w B A n l)(hi:i<n):∃b off x,A=some ⟨b,off,none⟩∧b<B∧l[i]?=some x∧l.drop i=x::l.drop (i+1)∧w.cell? ⟨b,off+i*6,none⟩=some (.int .i64 x.stop.ord)∧w.cell? ⟨b,off+i*6+1,none⟩=some (.bool x.stop.drop)∧w.cell? ⟨b,off+i*6+2,none⟩=some (.int .i64 x.arrive)∧w.cell? ⟨b,off+i*6+3,none⟩=some (.int .i64 x.start)∧w.cell? ⟨b,off+i*6+4,none⟩=some (.int .i64 x.leave)∧w.cell? ⟨b,off+i*6+5,none⟩=some (.int .i64 x.load):=by
 obtain⟨b,off,e,hb,hc⟩:=Recs.at_ h hi;have hlt:i<l.length:=by rw[h.length];exact hi
 have hx:=List.getElem?_eq_getElem hlt;obtain⟨h0,h1,h2,h3,h4,h5⟩:=r_4 hx;exact⟨b,off,_,e,hb,hx,List.drop_eq_getElem_cons hlt,hc 0 _ h0,hc 1 _ h1,hc 2 _ h2,hc 3 _ h3,hc 4 _ h4,hc 5 _ h5⟩
theorem q_s:(Tryz.prog.info? 245).map (fun i=>(i.zero,i.size,i.bytes))=some (some (.agg #[.int .i64 0,.bool false,.int .i64 0,.int .i64 0,.int .i64 0,.int .i64 0]),6,48):=by kernel_rfl
end Rec
end Go.Proofs.YtkpnmpjnpcjohaaGreat
